/- Part of the proof. -/
import Derived.WalkKit
import Derived.WalkSpells
import Derived.WalkLawsBesides
import Derived.Deep.AppendLies
import Derived.Deep.AppendSrc
import Derived.Deep.QuietTactic
import Derived.BigQuiet
import Derived.Maps.AppendAt
import Derived.Lib.Hide
import Derived.Laws.BytesArg
import Derived.Laws.CopyOwn
import Derived.Deep.LoopGhost
import Derived.Deep.MidRow
import Derived.Deep.WholeRow
import Derived.IntWalk
import Derived.Test.YtakcjlimbabbfaaGreatDoorProg
import Derived.Lib.Bytealg
import Derived.Lib.IndexLaws
import Derived.Lib.Strings
import Derived.Lib.Slices
import Derived.Lib.Walk
import Derived.Laws.Strings3
import Derived.BigCall
import Derived.BigGuard
import Derived.Deep.Draws
import Derived.Maps.OwnSet
import Derived.BigRegion
import Derived.Laws.OwnMore
import Derived.Deep.CutBlock
import Derived.Deep.CutRange
import Derived.Shelf.SlGeneric
import Derived.Ground.SlsfProg
import Derived.Shelf.SlLaysF0
import Derived.Ground.SlgnProg
import Derived.Shelf.SlLaysE0
import Derived.Ground.Names8Prog
import Derived.Shelf.Lays8
import Derived.Shelf.Small.Bits
import Derived.Shelf.Small.Strs
import Derived.Shelf.Small.Wraps
import Derived.Shelf.Strconv.Itoa0
import Derived.Shelf.Strings.Search1
import Derived.Shelf.Strings.Prefix
import Derived.Shelf.Slices.Turned
import Derived.Ground.Names2Prog
import Derived.Shelf.Slices.SearchI
import Derived.Shelf.SlSortCmp.WholeK
import Derived.Shelf.SlSortCmp.NoneTotal
import Derived.Lib.TrailingZeros
import Derived.Shelf.Spec.TrailingZeros
import Derived.Deep.RegionHeld
import Derived.Shelf.SlicesQ.Reverse
import Derived.Shelf.Spec.SlicesGrow
import Derived.RangeFuncNested
import Derived.RangeFuncBound
import Derived.RangeFuncCalls
import Derived.RangeFuncLeaves
import Derived.Shelf.Abstract
import Derived.Shelf.RegionOpen
import Derived.OwnWalkIn
import Derived.TacticsInMore
import Derived.LoopNIn
import Derived.LoopIn
import Derived.Test.YtakcjlimbabbfaaGreatDoorRows
import Derived.Test.YtakcjlimbabbfaaGreatDoorTie
import Derived.Test.YtakcjlimbabbfaaGreatDoorCards
import Derived.ProofKit
import Derived.LaidMore
import Derived.OpenShut
import Derived.Stop.Joined
import Derived.JoinedCond
import Derived.SliceStrings
import Derived.SizedLaws
import Derived.SevenTiedAt
import Derived.ChangeMaps5
import Derived.Lay
import Derived.HandedShaped
import Derived.Shelf.Vars
import Derived.Lib.LaidTab
set_option linter.unusedVariables false
set_option linter.unusedSimpArgs false
set_option maxRecDepth 1000000
set_option maxHeartbeats 8000000
namespace Go.Proofs.YtakcjlimbabbfaaGreatDoor
abbrev zR : Obj := .cells #[.int .i64 0, .slice none 0 0, .slice none 0 0] 25
abbrev zT : Obj := .cells #[.int .u8 0, .int .i64 0, .int .i64 0, .slice none 0 0, .slice none 0 0] 80
abbrev zL : List Value := [.int .i64 0, .slice none 0 0, .slice none 0 0]
abbrev zM : List Value := [.int .u8 0, .int .i64 0, .int .i64 0, .slice none 0 0, .slice none 0 0]
abbrev zC (K : Int) (A : Option Addr) (n c : Nat) (B : Option Addr) (m d : Nat) : Obj := .cells #[.int .i64 K, .slice A n c, .slice B m d] 25
abbrev zV (K : Int) (A : Option Addr) (n c : Nat) (B : Option Addr) (m d : Nat) : List Value := [.int .i64 K, .slice A n c, .slice B m d]
theorem pP : (∀ {α : Type} (l : List α) (i : Nat) (a : α), l.toArray.setIfInBounds i a = (l.set i a).toArray) ∧ (∀ {α : Type} (l : List α) (a b : α), (a :: l).set 0 b = b :: l) ∧ (∀ {α : Type} (l : List α) (n : Nat) (a b : α), (a :: l).set (n + 1) b = a :: l.set n b) := ⟨fun l i a => List.setIfInBounds_toArray l i a, fun _ _ _ => rfl, fun _ _ _ _ => rfl⟩
theorem dT {p : Prop} [Decidable p] (h : p) : decide p = true := decide_eq_true h
theorem dF {p : Prop} [Decidable p] (h : ¬p) : decide p = false := decide_eq_false h
theorem Lh {p : Prop} (h : p) : RowKit.Hid p := Lib.hid h
theorem bW {P : Program} {md : Region.Mode} {ops : Array Oper} {Q : Exit -> Act -> World -> Prop} {S : World -> Prop} {fuel : Nat} {listed : Array Bool} {a b : Act} {w : World} {d : Option Tmp} {op : Op} {ty : TypeId} {pos : String} {af : Array Edge} {gd : Option (Nat × Bool)} {v : Value} (i : Nat) (h : wpAnyH P md ops Q S fuel (listed.setIfInBounds i true) b w) (hi : ops[i]? = some ⟨d, op, ty, pos, af, gd⟩ := by rfl) (hy : YieldsIf P ops S ⟨d, op, ty, pos, af, gd⟩ v a := by exact Or.inl ⟨by rfl, by intro w' h; go_simp; try with_reducible rfl⟩) (hb : a.put d v = b := by (try simp only [Act.put, pP]); try rfl) (hS : S w := by assumption) (hs : Region.noSelect ops = true := by kernel_rfl) (hf : Region.free md ops listed i = true := by kernel_rfl) (hr : (Region.ready md ops listed).contains i = true := by kernel_rfl) (hQ : ∀ c a w, Q (.panic c) (a.put d v) w -> Q (.panic c) a w := by exact fun _ _ _ h => h) : wpAnyH P md ops Q S (fuel + 1) listed a w := by subst hb; exact wpAnyH_take hi hs hf hr hQ hy hS h
theorem aJ {P : Program} {md : Region.Mode} {ops : Array Oper} {Q : Exit -> Act -> World -> Prop} {S : World -> Prop} {fuel : Nat} {listed : Array Bool} {a b : Act} {w : World} {d : Option Tmp} {op : Op} {ty : TypeId} {pos : String} {af : Array Edge} {gd : Option (Nat × Bool)} {v : Value} (i : Nat) (h : wpAnyH P md ops Q S fuel (listed.setIfInBounds i true) b w) (hi : ops[i]? = some ⟨d, op, ty, pos, af, gd⟩ := by rfl) (hy : YieldsIf P ops S ⟨d, op, ty, pos, af, gd⟩ v a := by exact Or.inl ⟨by rfl, by rintro w' ⟨h1, h2⟩; go_simp; try with_reducible rfl⟩) (hb : a.put d v = b := by (try simp only [Act.put, pP]); try rfl) (hS : S w := by assumption) (hs : Region.noSelect ops = true := by kernel_rfl) (hf : Region.free md ops listed i = true := by kernel_rfl) (hr : (Region.ready md ops listed).contains i = true := by kernel_rfl) (hQ : ∀ c a w, Q (.panic c) (a.put d v) w -> Q (.panic c) a w := by exact fun _ _ _ h => h) : wpAnyH P md ops Q S (fuel + 1) listed a w := by subst hb; exact wpAnyH_take hi hs hf hr hQ hy hS h
theorem ax {P : Program} {md : Region.Mode} {ops : Array Oper} {Q : Exit -> Act -> World -> Prop} {S : World -> Prop} {fuel : Nat} {listed : Array Bool} {a b : Act} {w : World} {d : Option Tmp} {op : Op} {ty : TypeId} {pos : String} {af : Array Edge} {gd : Option (Nat × Bool)} {v : Value} (i : Nat) (h : wpAnyH P md ops Q S fuel (listed.setIfInBounds i true) b w) (hi : ops[i]? = some ⟨d, op, ty, pos, af, gd⟩ := by rfl) (hy : YieldsIf P ops S ⟨d, op, ty, pos, af, gd⟩ v a := by exact Or.inl ⟨by rfl, by rintro w' ⟨h1, h2, h3⟩; go_simp; try with_reducible rfl⟩) (hb : a.put d v = b := by (try simp only [Act.put, pP]); try rfl) (hS : S w := by assumption) (hs : Region.noSelect ops = true := by kernel_rfl) (hf : Region.free md ops listed i = true := by kernel_rfl) (hr : (Region.ready md ops listed).contains i = true := by kernel_rfl) (hQ : ∀ c a w, Q (.panic c) (a.put d v) w -> Q (.panic c) a w := by exact fun _ _ _ h => h) : wpAnyH P md ops Q S (fuel + 1) listed a w := by subst hb; exact wpAnyH_take hi hs hf hr hQ hy hS h
theorem bE {P : Program} {md : Region.Mode} {ops : Array Oper} {Q : Exit -> Act -> World -> Prop} {S : World -> Prop} {fuel : Nat} {listed : Array Bool} {a b : Act} {w : World} {d : Option Tmp} {op : Op} {ty : TypeId} {pos : String} {af : Array Edge} {gd : Option (Nat × Bool)} {v : Value} (i : Nat) (h : wpAnyH P md ops Q S fuel (listed.setIfInBounds i true) b w) (hi : ops[i]? = some ⟨d, op, ty, pos, af, gd⟩ := by rfl) (hy : YieldsIf P ops S ⟨d, op, ty, pos, af, gd⟩ v a := by exact Or.inl ⟨by rfl, by rintro w' ⟨h1, h2, h3, h4⟩; go_simp; try with_reducible rfl⟩) (hb : a.put d v = b := by (try simp only [Act.put, pP]); try rfl) (hS : S w := by assumption) (hs : Region.noSelect ops = true := by kernel_rfl) (hf : Region.free md ops listed i = true := by kernel_rfl) (hr : (Region.ready md ops listed).contains i = true := by kernel_rfl) (hQ : ∀ c a w, Q (.panic c) (a.put d v) w -> Q (.panic c) a w := by exact fun _ _ _ h => h) : wpAnyH P md ops Q S (fuel + 1) listed a w := by subst hb; exact wpAnyH_take hi hs hf hr hQ hy hS h
theorem wS {P : Program} {md : Region.Mode} {ops : Array Oper} {Q : Exit -> Act -> World -> Prop} {S : World -> Prop} {fuel : Nat} {listed : Array Bool} {a b : Act} {w : World} {d : Option Tmp} {op : Op} {ty : TypeId} {pos : String} {af : Array Edge} {gd : Option (Nat × Bool)} {v : Value} (i : Nat) (h : wpAnyH P md ops Q S fuel (listed.setIfInBounds i true) b w) (hi : ops[i]? = some ⟨d, op, ty, pos, af, gd⟩ := by rfl) (hy : YieldsIf P ops S ⟨d, op, ty, pos, af, gd⟩ v a := by exact Or.inr ⟨by rfl, rfl⟩) (hb : a.put d v = b := by (try simp only [Act.put, pP]); try rfl) (hS : S w := by assumption) (hs : Region.noSelect ops = true := by kernel_rfl) (hf : Region.free md ops listed i = true := by kernel_rfl) (hr : (Region.ready md ops listed).contains i = true := by kernel_rfl) (hQ : ∀ c a w, Q (.panic c) (a.put d v) w -> Q (.panic c) a w := by exact fun _ _ _ h => h) : wpAnyH P md ops Q S (fuel + 1) listed a w := by subst hb; exact wpAnyH_take hi hs hf hr hQ hy hS h
theorem wX {P : Program} {md : Region.Mode} {ops : Array Oper} {Q : Exit -> Act -> World -> Prop} {S : World -> Prop} {fuel : Nat} {listed : Array Bool} {a b : Act} {w : World} {d : Option Tmp} {op : Op} {ty : TypeId} {pos : String} {af : Array Edge} {gd : Option (Nat × Bool)} {v : Value} (i : Nat) (hi : ops[i]? = some ⟨d, op, ty, pos, af, gd⟩) (hy : YieldsIf P ops S ⟨d, op, ty, pos, af, gd⟩ v a) (h : wpAnyH P md ops Q S fuel (listed.setIfInBounds i true) b w) (hb : a.put d v = b := by (try simp only [Act.put, pP]); try rfl) (hS : S w := by assumption) (hs : Region.noSelect ops = true := by kernel_rfl) (hf : Region.free md ops listed i = true := by kernel_rfl) (hr : (Region.ready md ops listed).contains i = true := by kernel_rfl) (hQ : ∀ c a w, Q (.panic c) (a.put d v) w -> Q (.panic c) a w := by exact fun _ _ _ h => h) : wpAnyH P md ops Q S (fuel + 1) listed a w := by subst hb; exact wpAnyH_take hi hs hf hr hQ hy hS h
theorem wA {P : Program} {md : Region.Mode} {ops : Array Oper} {Q : Exit -> Act -> World -> Prop} {S : World -> Prop} {fuel : Nat} {listed : Array Bool} {a : Act} {w : World} {d : Option Tmp} {op : Op} {ty : TypeId} {pos : String} {af : Array Edge} {gd : Option (Nat × Bool)} {i : Nat} {rs : List Nat} (ho : ops[i]? = some ⟨d, op, ty, pos, af, gd⟩) (h : ∀ K' : Act -> World -> Prop, Shut (∀ a w, S w -> (S w -> wpAnyH P md ops Q S fuel (listed.setIfInBounds i true) a w) -> K' a w) -> if Region.wanted ⟨d, op, ty, pos, af, gd⟩ (yielded ops a.tmps) = true then Oper.wp P ⟨d, op, ty, pos, af, gd⟩ a w K' Q else K' (a.put d undef) w) (hs : AllReadyH P md ops Q S fuel listed a w rs) : AllReadyH P md ops Q S fuel listed a w (i :: rs) := AllReadyH.cons ho h hs
theorem bF {α : Type} [BEq α] [LawfulBEq α] {a b : α} (h : a ≠ b) : (a == b) = false := beq_eq_false_iff_ne.2 h
theorem bT {α : Type} [BEq α] [LawfulBEq α] {a b : α} (h : a = b) : (a == b) = true := beq_iff_eq.2 h
theorem wT {P : Program} {md : Region.Mode} {ops : Array Oper} {Q : Exit -> Act -> World -> Prop} {S : World -> Prop} {fuel : Nat} {listed : Array Bool} {a : Act} {w : World} (i : Nat) (oi : Oper) {v : Value} (hy : YieldsIf P ops S oi v a) (h : wpAnyH P md ops Q S fuel (listed.setIfInBounds i true) (a.put oi.dst v) w) (hS : S w := by assumption) (hi : ops[i]? = some oi := by rfl) (hs : Region.noSelect ops = true := by kernel_rfl) (hf : Region.free md ops listed i = true := by kernel_rfl) (hr : (Region.ready md ops listed).contains i = true := by kernel_rfl) (hQ : ∀ c a w, Q (.panic c) (a.put oi.dst v) w -> Q (.panic c) a w := by exact fun _ _ _ h => h) : wpAnyH P md ops Q S (fuel + 1) listed a w := wpAnyH_take hi hs hf hr hQ hy hS h
section
open Go.RowKit
def by8 (c : UInt8) : Value := .int .u8 c.toNat
def bs (l : List UInt8) : List Value := l.map by8
theorem FE {l : List UInt8} {k : Nat} (h : k < l.length) : (bs l)[k]? = some (.int .u8 l[k].toNat) := by simp [bs, by8, h]
def Rd (w : World) (A : Option Addr) (xs : List Value) : Prop :=
 xs = [] \/ ∃ b o, A = some ⟨b, o, none⟩ /\ ∀ k v, xs[k]? = some v -> w.cell? ⟨b, o + k, none⟩ = some v
section
variable {w w' : World} {A : Option Addr} {xs : List Value}
theorem Rd.keep (h : Rd w A xs) (hk : ∀ b o, b < w.heap.size -> w'.cell? ⟨b, o, none⟩ = w.cell? ⟨b, o, none⟩) : Rd w' A xs := by
 rcases h with h | ⟨b, o, hA, hc⟩
 ·exact .inl h
 ·exact .inr ⟨b, o, hA, fun k v hv => (hk b _ (World.block_lt_of_cell? w _ (hc k v hv))).trans (hc k v hv)⟩
theorem Rd.below (h : Rd w A xs) (hb : Below w.heap.size w w') : Rd w' A xs := h.keep fun b o hlt => hb.cell (p := ⟨b, o, none⟩) hlt
theorem Rd.open (h : Rd w A xs) (hn : xs ≠ []) : ∃ b o, A = some ⟨b, o, none⟩ /\ ∀ k v, xs[k]? = some v -> w.cell? ⟨b, o + k, none⟩ = some v := by
 rcases h with h | h
 ·exact absurd h hn
 ·exact h
theorem Rd.of_own {base : Nat} {e : TypeId} {n size : Nat} {v : Value} (h : w.ownsRow base e size v n xs) : ∃ A c, v = .slice A n c /\ Rd w A xs /\ n <= c /\ c <= maxLen := by
 have hx := h.1
 rcases h.2 with ⟨rfl, rfl⟩ | ⟨g, cap, cur, rfl, hb, hg, hn, hm, hs, ht⟩
 ·exact ⟨none, 0, rfl, .inl (List.eq_nil_of_length_eq_zero (by simpa using hx)), Nat.le_refl _, Nat.zero_le _⟩
 ·refine ⟨_, cap, rfl, .inr ⟨g, 0, rfl, fun k u hu => ?_⟩, hn, hm⟩;have hc := h.cells (g := g) rfl k u hu;have ha : (⟨g, 0, none⟩ : Addr).add k = ⟨g, 0 + k, none⟩ := by unfold Addr.add; split <;> simp_all
  rw [ha] at hc;exact hc
end
theorem Cq {P : Program} {w : World} {base : Nat} {t tx ty e : TypeId} {i : TypeInfo} {z : Value} {size bytes : Nat} (ht : P.underlying t = some (.slice e)) (hi : P.info? e = some i) (hz : i.zero = some z)
  (hsize : i.size = size) (hby : i.bytes = bytes) (hzs : z.cells.size = size) {v : Value} {n : Nat} {xs : List Value} (hown : w.ownsRow base e size v n xs)
  {x : Value} {m : Nat} {news : List Value} (hs : Src P i.size tx x m news w) (h63 : n + m <= maxLen) (hbytes : (n + m) * bytes <= 140737488355328) (hbase : base <= w.heap.size) :
  ∃ v' w', (Builtin.append_ #[t, tx] ty #[v, x]).run P w = .ok v' w' /\ w'.ownsRow base e size v' (n + m) (xs ++ news) /\ w.grownBy w' v.ownBlock /\ (v'.ownBlock = v.ownBlock \/ v'.ownBlock = some w.heap.size) := by
 subst hsize;subst hby
 have hlen : (xs ++ news).length = (n + m) * i.size := by rw [List.length_append, hown.1, hs.newsLen, Nat.add_mul]
 have h63' : n + m <= 9223372036854775807 := by simp only [maxLen] at h63; omega
 rcases Nat.eq_zero_or_pos m with hm | hm
 ·subst hm;have hnil : news = [] := List.eq_nil_of_length_eq_zero (by simpa using hs.newsLen);subst hnil;have hc := hs.cells;rw [List.append_nil, Nat.add_zero];refine ⟨v, w, ?_, hown, ⟨rfl, rfl, rfl, Nat.le_refl _, fun _ _ _ => rfl⟩, .inl rfl⟩
  rcases hown.2 with ⟨rfl, rfl⟩ | ⟨g, cap, cur, rfl, hbg, hg, hnc, hcm, hcs, htake⟩
  · rcases hs.kind with ⟨e', hk⟩ | hk <;> simp [Builtin.append_, run_underlying ht, run_underlying hk, sizeOf, typeInfo, hi, hs.len, hc]
  · have h := run_append_room_src (P := P) w t tx ty e i ht hi g 0 n cap x 0 [] hs (by omega) (by simp) (by simp);exact h
 ·have grown : ∀ (old : Nat), (hold : old < n + m) ->
     (w.drew.alloc (.cells ((xs ++ news).toArray ++ Builtin.zeroCells z.cells (grownCap w (n + m) old e - (n + m))) e)).ownsRow base e i.size
       (.slice (some ⟨w.heap.size, 0, none⟩) (n + m) (grownCap w (n + m) old e)) (n + m) (xs ++ news) := by
    intro old ho;have hge := grownCap_ge w (n + m) old e;refine ⟨hlen, .inr ⟨w.heap.size, _, _, rfl, hbase, heap_alloc_new w.drew _, hge, grownCap_le_maxLen w (n + m) old e h63, ?_, ?_⟩⟩
    ·simp only [Array.size_append, List.size_toArray, size_zeroCells, hzs, hlen, <- Nat.add_mul]
     congr 1
     omega
    ·simp only [Array.toList_append];rw [<- hlen];exact List.take_left
  rcases hown.2 with ⟨rfl, rfl⟩ | ⟨g, cap, cur, rfl, hbg, hg, hnc, hcm, hcs, htake⟩
  · have hx : xs = [] := List.eq_nil_of_length_eq_zero (by simpa using hown.1);subst hx;have hr := run_append_grow_src (P := P) w t tx ty e i z ht hi hz none 0 0 [] (run_firstCells_none w.drew i.size 0 0 0) x m news hs (by omega) (by omega) (growslice_fits (by omega) (by simpa using hbytes));have hgr := grown 0 (by omega);exact ⟨_, _, hr, hgr, ⟨rfl, rfl, rfl, by simp, fun k hk _ => Below.heap_alloc w.drew _ k hk⟩, .inr rfl⟩
  · by_cases hroom : n + m <= cap
    ·have hfit : n * i.size + news.length <= cur.size := by rw [hs.newsLen, hcs, <- Nat.add_mul]; exact Nat.mul_le_mul_right _ hroom
     have hst := run_storeCells_at P g (n * i.size) e news 0 cur w hg (by simpa using hfit) hs.one;simp only [Nat.add_zero] at hst;refine ⟨.slice (some ⟨g, 0, none⟩) (n + m) cap, w.setRow g (cur.toList.take (n * i.size) ++ news ++ cur.toList.drop (n * i.size + news.length)).toArray, ?_,
       ⟨hlen, .inr ⟨g, cap, _, rfl, hbg, setRow_heap w g cur _ e _ hg, hroom, hcm, ?_, ?_⟩⟩, ⟨rfl, rfl, rfl, by simp, fun k _ hk => setRow_other w g k _ (fun e => hk (by simp [Value.ownBlock, e]))⟩, .inl rfl⟩
     · rcases hs.kind with ⟨e', hk⟩ | hk <;> simp [Builtin.append_, run_underlying ht, run_underlying hk, sizeOf, typeInfo, hi, hs.len, hroom, hs.cells, Addr.add_lit, hst]
     · simp only [List.size_toArray, List.length_append, List.length_take, List.length_drop, Array.length_toList];omega
     · rw [htake, <- hlen];exact List.take_left
    ·have holds : ∀ j u, xs[j]? = some u -> w.drew.cell? ((⟨g, 0, none⟩ : Addr).add j) = some u := hown.cells (g := g) rfl;have hr := run_append_grow_src (P := P) w t tx ty e i z ht hi hz (some ⟨g, 0, none⟩) n cap xs (run_firstCells_some w.drew i.size n ⟨g, 0, none⟩ n cap xs hown.1 holds) x m news hs (by omega) (by omega) (growslice_fits (by omega) hbytes);have hgr := grown cap (by omega);exact ⟨_, _, hr, hgr, ⟨rfl, rfl, rfl, by simp, fun k hk _ => Below.heap_alloc w.drew _ k hk⟩, .inr rfl⟩
theorem wJ {P : Program} {w : World} {o : Oper} {a : Act} {K : Act -> World -> Prop} {Q : Exit -> Act -> World -> Prop} (s x : Operand) (t tx : TypeId)
  (ho : o.op = .call { callee := .builtin .append, args := #[s, x], argTypes := #[t, tx] })
  (base : Nat) (e : TypeId) (i : TypeInfo) (z : Value) (size bytes : Nat) (ht : P.underlying t = some (.slice e)) (hi : P.info? e = some i) (hz : i.zero = some z)
  (hsize : i.size = size) (hby : i.bytes = bytes) (hzs : z.cells.size = size) (v : Value) (n : Nat) (xs : List Value) (hs : a.eval s = v) (hown : w.ownsRow base e size v n xs)
  (y : Value) (m : Nat) (news : List Value) (hx : a.eval x = y) (hsrc : Src P i.size tx y m news w) (h63 : n + m <= maxLen) (hbytes : (n + m) * bytes <= 140737488355328) (hbase : base <= w.heap.size)
  (h : ∀ v' w', w'.ownsRow base e size v' (n + m) (xs ++ news) -> w.grownBy w' v.ownBlock -> (v'.ownBlock = v.ownBlock \/ v'.ownBlock = some w.heap.size) -> K (a.put o.dst v') w') : o.wp P a w K Q := by
 obtain ⟨v', w', hr, h2, h3, h4⟩ := Cq (P := P) (ty := o.type) ht hi hz hsize hby hzs hown hsrc h63 hbytes hbase;unfold Oper.wp execOp;simp only [ho, resolve, invoke, builtin, Sem.run_bind, Sem.run_pure, Result.andThen_ok, List.map_toArray, List.map_cons, List.map_nil, hs, hx, hr];exact h v' w' h2 h3 h4
theorem eu {P : Program} {w : World} {ops : Array Oper} {rest : List Oper} {o : Oper} {a : Act} {Q : Exit -> Act -> World -> Prop} (hgd : o.guard = none) (s x : Operand) (t tx : TypeId)
  (ho : o.op = .call { callee := .builtin .append, args := #[s, x], argTypes := #[t, tx] })
  (base : Nat) (e : TypeId) (i : TypeInfo) (z : Value) (size bytes : Nat) (ht : P.underlying t = some (.slice e)) (hi : P.info? e = some i) (hz : i.zero = some z)
  (hsize : i.size = size) (hby : i.bytes = bytes) (hzs : z.cells.size = size) (v : Value) (n : Nat) (xs : List Value) (hs : a.eval s = v) (hown : w.ownsRow base e size v n xs)
  (y : Value) (m : Nat) (news : List Value) (hx : a.eval x = y) (hsrc : Src P i.size tx y m news w) (h63 : n + m <= maxLen) (hbytes : (n + m) * bytes <= 140737488355328) (hbase : base <= w.heap.size)
  (h : ∀ v' w', w'.ownsRow base e size v' (n + m) (xs ++ news) -> w.grownBy w' v.ownBlock -> (v'.ownBlock = v.ownBlock \/ v'.ownBlock = some w.heap.size) -> wpList P ops Q rest (a.put o.dst v') w') : wpList P ops Q (o :: rest) a w :=
 wpList_plain hgd fun _ hK => wJ s x t tx ho base e i z size bytes ht hi hz hsize hby hzs v n xs hs hown y m news hx hsrc h63 hbytes hbase fun v' w' h2 h3 h4 => hK _ _ (h v' w' h2 h3 h4)
def fq (w w' : World) (B B' : Option Nat) : Prop := w.grownBy w' B /\ (B' = B \/ ∃ g, B' = some g /\ w.heap.size <= g)
theorem fq.refl (w : World) (B : Option Nat) : fq w w B B := ⟨World.grownBy.refl w B, .inl rfl⟩
theorem fq.step {w w1 w2 : World} {B B1 B2 : Option Nat} (h : fq w w1 B B1) (hg : w1.grownBy w2 B1) (hb : B2 = B1 \/ ∃ g, B2 = some g /\ w1.heap.size <= g) : fq w w2 B B2 := by
 obtain ⟨h1, h2⟩ := h;refine ⟨⟨hg.os.trans h1.os, hg.tape.trans h1.tape, hg.output.trans h1.output, Nat.le_trans h1.size hg.size, fun i hi hne => ?_⟩, ?_⟩
 ·have hi1 : i < w1.heap.size := Nat.lt_of_lt_of_le hi h1.size;refine (hg.block i hi1 ?_).trans (h1.block i hi hne)
  rcases h2 with rfl | ⟨g, rfl, hg2⟩
  ·exact hne
  ·intro e;have : i = g := by simpa using e
   omega
 ·rcases hb with rfl | ⟨g, rfl, hg2⟩
  ·exact h2
  ·exact .inr ⟨g, rfl, Nat.le_trans h1.size hg2⟩
theorem fq.append {w w1 w2 : World} {B : Option Nat} {v v' : Value} (h : fq w w1 B v.ownBlock) (hg : w1.grownBy w2 v.ownBlock) (hb : v'.ownBlock = v.ownBlock \/ v'.ownBlock = some w1.heap.size) : fq w w2 B v'.ownBlock :=
 h.step hg (hb.imp id fun e => ⟨_, e, Nat.le_refl _⟩)
theorem fq.setCell {w w1 : World} {B : Option Nat} {g : Nat} (h : fq w w1 B (some g)) (o : Nat) (u : Value) : fq w (w1.setCell ⟨g, o, none⟩ u) B (some g) :=
 h.step ⟨rfl, rfl, rfl, by simp [World.setCell], fun k hk hne => Below.heap_setCell _ _ _ _ (by rintro rfl; exact hne rfl)⟩ (.inl rfl)
theorem fq.size {w w' : World} {B B' : Option Nat} (h : fq w w' B B') : w.heap.size <= w'.heap.size := h.1.size
theorem fq.below {w0 w w' : World} {B B' : Option Nat} (hb : Below w0.heap.size w0 w) (h : fq w w' B B') (hB : ∀ g, B = some g -> w0.heap.size <= g) : Below w0.heap.size w0 w' := hb.grown h.1 hb.size hB
theorem qj {P : Program} {size : Nat} {tx e' : TypeId} (hk : P.underlying tx = some (.slice e')) (hs : size = 1) (w : World) (x : Value) (t : TypeId) (h1 : x.oneCell' = true) :
  Src P size tx (.slice (some ⟨w.heap.size, 0, none⟩) 1 1) 1 [x] (w.alloc (.cells #[x] t)) :=
 Src.ofSlice _ hk _ _ _ _ (by simp [hs]) (cell_one_new _ _ _) (by simpa using h1)
theorem dW {w w' : World} {base : Nat} {e : TypeId} {size n : Nat} {v : Value} {xs : List Value} (h : w.ownsRow base e size v n xs) (hb : Below w.heap.size w w') : w'.ownsRow base e size v n xs := by
 refine h.kept (row := none) ⟨hb.os, hb.tape, hb.output, hb.size, fun k hk _ => hb.block k hk⟩ ?_
 cases hv : v.ownBlock <;> simp
theorem dJ {w0 w w' : World} {row : Option Nat} (hb : Below w0.heap.size w0 w) (hg : w.grownBy w' row) (hr : ∀ g, row = some g -> w0.heap.size <= g) : Below w0.heap.size w0 w' := hb.grown hg hb.size hr
theorem strOfNums_bytes (l : List UInt8) : strOfNums (l.map fun c => (c.toNat : Int)) = ⟨l.toArray⟩ := by
 apply ByteArray.ext
 apply Array.ext'
 rw [strOfNums_data, List.map_map]
 conv => rhs; rw [List.toList_toArray, <- List.map_id l]
 apply List.map_congr_left
 intro c _;simp
theorem Gw {P : Program} {src dst e : TypeId} (hs : P.underlying src = some (.slice e)) (he : P.underlying e = some (.int .u8)) (hd : P.underlying dst = some .string) {w : World} {A : Option Addr} {l : List UInt8} (h : Rd w A (bs l)) (c : Nat) :
  (convert src dst (.slice A l.length c)).run P w = .ok (.string ⟨l.toArray⟩) w := by
 have key : ∀ b o, (∀ k v, (bs l)[k]? = some v -> w.cell? ⟨b, o + k, none⟩ = some v) -> (convert src dst (.slice (some ⟨b, o, none⟩) l.length c)).run P w = .ok (.string ⟨l.toArray⟩) w := by
  intro b o hc;have := run_convert_bytes_arg (P := P) w src e hs he b o l.length c (l.map fun c => (c.toNat : Int)) (by simp) (fun i hi => by
    rw [hc i (.int .u8 l[i].toNat) (FE hi)];simp [List.getD, hi]) dst hd
  rw [strOfNums_bytes] at this;exact this
 rcases h with h | ⟨b, o, rfl, hc⟩
 ·have hl : l = [] := by simpa [bs] using h
  subst hl
  cases A with
  | none => exact run_convert_bytes_nil w src e hs he 0 c dst hd
  | some a =>
    rw [run_convert_bytes_string w src dst e (some a) _ c hs he hd, run_bytesToString w a _ c [] (by simp [loadCells, loadCellsFrom])]
    rfl
 ·exact key b o hc
def aa (w : World) (B : Nat) (C : List Value) (T : TypeId) : Prop := w.heap[B]? = some (.cells C.toArray T (0, 0))
section
variable {w w' : World} {B : Nat} {C : List Value} {T : TypeId}
theorem aa.lt (h : aa w B C T) : B < w.heap.size := (Array.getElem?_eq_some_iff.1 h).1
theorem aa.cell (h : aa w B C T) {j : Nat} {v : Value} (hv : C[j]? = some v) : w.cell? ⟨B, j, none⟩ = some v := by
 rw [cell_of_row w B j _ _ _ h]
 simpa using hv
theorem aa.frozen (h : aa w B C T) (j : Nat) : w.frozen? ⟨B, j, none⟩ = false := frozen_of_row w B j _ _ h
theorem aa.new (w : World) (C : List Value) (T : TypeId) : aa (w.alloc (.cells C.toArray T)) w.heap.size C T := heap_alloc_new w _
theorem aa.new' (w : World) (C : List Value) (A : Array Value) (T : TypeId) (h : A = C.toArray) : aa (w.alloc (.cells A T)) w.heap.size C T := by subst h; exact heap_alloc_new w _
theorem aa.alloc (h : aa w B C T) (o : Obj) : aa (w.alloc o) B C T := (Below.heap_alloc w o B h.lt).trans h
theorem aa.set (h : aa w B C T) (j : Nat) (v : Value) : aa (w.setCell ⟨B, j, none⟩ v) B (C.set j v) T := by
 have := heap_setCell_same w B j _ T v h;rw [aa, this];simp
theorem aa.set_other (h : aa w B C T) (a : Addr) (v : Value) (hne : B ≠ a.block) : aa (w.setCell a v) B C T := (heap_setCell_other w a B v hne).trans h
theorem aa.below (h : aa w B C T) {n : Nat} (hb : Below n w w') (hn : B < n) : aa w' B C T := (hb.block _ hn).trans h
theorem aa.range (h : aa w B C T) (o n : Nat) : w.rangeAt B o ((C.drop o).take n) := fun j v hv => by
 refine h.cell ?_;rw [List.getElem?_take] at hv
 split at hv
 ·rw [List.getElem?_drop] at hv;exact hv
 ·cases hv
theorem aa.there (h : aa w B C T) (o n : Nat) (hn : o + n <= C.length) : w.there B o n := fun j hj => by
 have hl : o + j < C.length := by omega
 exact ⟨by rw [h.cell (List.getElem?_eq_getElem hl)]; rfl, h.frozen _⟩
theorem aa.setCells : ∀ (vs : List Value) {w : World} {C : List Value} (o : Nat), aa w B C T -> o + vs.length <= C.length -> aa (w.setCells B o vs) B (C.take o ++ vs ++ C.drop (o + vs.length)) T
 |[], w, C, o, h, hl => by simpa [World.setCells] using h
 |v :: vs, w, C, o, h, hl => by
  simp only [List.length_cons] at hl;have h1 := aa.setCells vs (o + 1) (h.set o v) (by simp; omega);rw [World.setCells];have e : (C.set o v).take (o + 1) ++ vs ++ (C.set o v).drop (o + 1 + vs.length) = C.take o ++ (v :: vs) ++ C.drop (o + (v :: vs).length) := by
   have ho : o < C.length := by omega
   rw [List.take_succ_eq_append_getElem (by simpa using ho), List.take_set, List.set_eq_of_length_le (by simp; omega)];rw [List.drop_set_of_lt (by omega)];simp;omega
  rw [e] at h1;exact h1
theorem heap_setCells_other (B k : Nat) (hk : k ≠ B) : ∀ (vs : List Value) (o : Nat) (w : World), (w.setCells B o vs).heap[k]? = w.heap[k]?
 |[], _, _ => rfl
 |v :: vs, o, w => by rw [World.setCells, heap_setCells_other B k hk vs, heap_setCell_other _ _ _ _ hk]
theorem size_setCells (B : Nat) : ∀ (vs : List Value) (o : Nat) (w : World), (w.setCells B o vs).heap.size = w.heap.size
 |[], _, _ => rfl
 |v :: vs, o, w => by rw [World.setCells, size_setCells B vs]; simp [World.setCell]
end
def aK (w w1 : World) (g : Nat) (D : List Value) (T : TypeId) : Prop := aa w1 g D T /\ (∀ k, k ≠ g -> w1.heap[k]? = w.heap[k]?) /\ w1.heap.size = w.heap.size /\ w1.os = w.os /\ w1.tape = w.tape /\ w1.output = w.output
section
variable {w w1 w0 : World} {g : Nat} {D : List Value} {T : TypeId}
theorem aK.other (h : aK w w1 g D T) {B : Nat} {C : List Value} {T' : TypeId} (hb : aa w B C T') (hne : B ≠ g) : aa w1 B C T' := (h.2.1 B hne).trans hb
theorem aK.below (h : aK w w1 g D T) {n : Nat} (hb : Below n w0 w) (hn : n <= g) : Below n w0 w1 :=
 ⟨h.2.2.2.1.trans hb.os, h.2.2.2.2.1.trans hb.tape, h.2.2.2.2.2.trans hb.output, by rw [h.2.2.1]; exact hb.size, fun k hk => (h.2.1 k (by omega)).trans (hb.block k hk)⟩
end
theorem xB (B : Nat) : ∀ (vs : List Value) (o : Nat) (w : World), (w.setCells B o vs).os = w.os /\ (w.setCells B o vs).tape = w.tape /\ (w.setCells B o vs).output = w.output
 |[], _, _ => ⟨rfl, rfl, rfl⟩
 |v :: vs, o, w => by rw [World.setCells]; exact xB B vs (o + 1) (w.setCell ⟨B, o, none⟩ v)
theorem aK.of_setCells {w : World} {g : Nat} {C : List Value} {T : TypeId} (h : aa w g C T) (o : Nat) (vs : List Value) (hl : o + vs.length <= C.length) : aK w (w.setCells g o vs) g (C.take o ++ vs ++ C.drop (o + vs.length)) T :=
 ⟨h.setCells vs o hl, fun k hk => heap_setCells_other g k hk vs o w, size_setCells g vs o w, xB g vs o w⟩
theorem aK.of_setCell {w : World} {g : Nat} {C : List Value} {T : TypeId} (h : aa w g C T) (o : Nat) (v : Value) : aK w (w.setCell ⟨g, o, none⟩ v) g (C.set o v) T :=
 ⟨h.set o v, fun k hk => heap_setCell_other _ _ _ _ hk, by simp [World.setCell], rfl, rfl, rfl⟩
theorem vI {P : Program} {w : World} {ops : Array Oper} {rest : List Oper} {o : Oper} {a : Act} {Q : Exit -> Act -> World -> Prop} (hgd : o.guard = none) (ty : TypeId) (x : Operand) (ho : o.op = .load ty x)
  (g j : Nat) (hx : a.eval x = .pointer (some ⟨g, j, none⟩)) {C : List Value} {T : TypeId} (hb : aa w g C T) (d : TypeDesc) (hu : P.underlying ty = some d) (hd : d.isRow = true) (n : Nat) (hi : (P.info? ty).map (·.size) = some n) (hn : j + n <= C.length)
  (h : wpList P ops Q rest (a.put o.dst (.agg ((C.drop j).take n).toArray)) w) : wpList P ops Q (o :: rest) a w :=
 wpList_load_mid hgd ty x ho g j hx _ d (hb.range j n) hu hd (by rw [hi, List.length_take, List.length_drop]; congr 1; omega) h
theorem FQ {P : Program} {w : World} {ops : Array Oper} {rest : List Oper} {o : Oper} {a : Act} {Q : Exit -> Act -> World -> Prop} (hgd : o.guard = none) (ty : TypeId) (x y : Operand) (ho : o.op = .store ty x y)
  (g j : Nat) (hx : a.eval x = .pointer (some ⟨g, j, none⟩)) (D : List Value) (hy : a.eval y = .agg D.toArray) {C : List Value} {T : TypeId} (hb : aa w g C T) (n : Nat) (hi : (P.info? ty).map (·.size) = some n) (hD : D.length = n) (hn : j + n <= C.length) (h1 : ∀ u ∈ D, u.oneCell' = true)
  (h : ∀ w1, aK w w1 g (C.take j ++ D ++ C.drop (j + n)) T -> wpList P ops Q rest (a.put o.dst undef) w1) : wpList P ops Q (o :: rest) a w := by
 subst hD;refine wpList_store_mid hgd ty x y ho g j D.toArray hx hy (hb.there j _ (by simpa using hn)) (by simpa using hi) (all_oneCell_toArray h1) ?_;exact h _ (aK.of_setCells hb j D hn)
theorem bM {P : Program} {fn : Func} {p : Tmp} {ty : TypeId} {R : Ending -> World -> Prop} {a : Act} {w : World} (hr : fn.results = #[.cell p ty]) (g : Nat) (hp : a.tmps.getD p undef = .pointer (some ⟨g, 0, none⟩)) {C : List Value} {T : TypeId} (hb : aa w g C T) (d : TypeDesc) (hu : P.underlying ty = some d) (hd : d.isRow = true)
  (hi : (P.info? ty).map (·.size) = some C.length) (hdf : a.defers = []) (hR : R (.returned (.agg C.toArray)) w) : bodyPost P fn R .ret a w :=
 bodyPost_ret (results_cell_row hr _ w g T C.toArray (0, 0) d hp hb hu (by cases d <;> simp_all) (by simpa using hi)) hdf hR
def tb (l : List UInt8) : ByteArray := ⟨l.toArray⟩
theorem fP (l : List UInt8) : (tb l).size = l.length := by simp [tb, ByteArray.size]
theorem ng (l : List UInt8) : (tb l).data.toList = l := by simp [tb]
theorem iP (l : List UInt8) : (tb l).toList = l := ByteArray.toList_mk l
theorem ae {w0 w w' : World} (h : Below w0.heap.size w0 w) (k : Below w.heap.size w w') : Below w0.heap.size w0 w' := h.trans (k.mono h.size)
theorem below_drewN {w0 w : World} (h : Below w0.heap.size w0 w) (n : Nat) : Below w0.heap.size w0 (w.drewN n) := ⟨h.os, h.tape, h.output, h.size, h.block⟩
theorem ag (w : World) (o : Obj) : Below w.heap.size w (w.alloc o) := (Below.refl _ _).alloc (Nat.le_refl _) o
theorem aB {w0 w : World} (h : Below w0.heap.size w0 w) (o : Obj) : Below w0.heap.size w0 (w.alloc o) := h.alloc h.size o
theorem aa.at (w : World) (C : List Value) (A : Array Value) (T : TypeId) (B : Nat) (hA : A = C.toArray) (hB : B = w.heap.size) : aa (w.alloc (.cells A T)) B C T := by subst hB; exact aa.new' w C A T hA
def iv (l : List Int) : List Value := l.map (Value.int .i64)
theorem rq (l : List Int) : (iv l).length = l.length := by simp [iv]
theorem nJ {l : List Int} {k : Nat} (h : k < l.length) : (iv l)[k]? = some (.int .i64 (l.getD k 0)) := by simp [iv, h]
theorem Bn {l : List Int} (h : l ≠ []) : iv l ≠ [] := by intro e; exact h (by simpa [iv] using e)
def bI (n : Int) : Prop := -9223372036854775808 <= n /\ n <= 9223372036854775807
theorem tT : (Tryz.prog.info? 5).map (fun i => (i.zero, i.size, i.bytes)) = some (some (.int .u8 0), 1, 1) := by kernel_rfl
theorem uR {P : Program} {tx e' : TypeId} {size n : Nat} (hk : P.underlying tx = some (.slice e')) (hs : size = 1) {w : World} {B : Nat} {C : List Value} {T : TypeId} (h : aa w B C T) (hn : C.length = n) (h1 : ∀ u ∈ C, u.oneCell' = true) (c : Nat) : Src P size tx (.slice (some ⟨B, 0, none⟩) n c) n C w := by
 refine Src.ofSlice _ hk _ _ _ _ (by rw [hs, hn, Nat.mul_one]) (fun j u hu => ?_) h1;have hadd : (⟨B, 0, none⟩ : Addr).add j = ⟨B, j, none⟩ := by unfold Addr.add; split <;> simp_all
 rw [hadd];exact h.cell hu
theorem rf {P : Program} {w : World} {ops : Array Oper} {o : Oper} {a : Act} {K : Act -> World -> Prop} {Q : Exit -> Act -> World -> Prop} {E : Prop} (hgd : o.guard = none) (s x : Operand) (t tx : TypeId)
  (ho : o.op = .call { callee := .builtin .append, args := #[s, x], argTypes := #[t, tx] })
  (base : Nat) (e : TypeId) (i : TypeInfo) (z : Value) (size bytes : Nat) (ht : P.underlying t = some (.slice e)) (hi : P.info? e = some i) (hz : i.zero = some z)
  (hsize : i.size = size) (hby : i.bytes = bytes) (hzs : z.cells.size = size) (v : Value) (n : Nat) (xs : List Value) (hs : a.eval s = v) (hown : w.ownsRow base e size v n xs)
  (y : Value) (m : Nat) (news : List Value) (hx : a.eval x = y) (hsrc : Src P i.size tx y m news w) (h63 : n + m <= maxLen) (hbytes : (n + m) * bytes <= 140737488355328) (hbase : base <= w.heap.size)
  (h : ∀ v' w', w'.ownsRow base e size v' (n + m) (xs ++ news) -> w.grownBy w' v.ownBlock -> (v'.ownBlock = v.ownBlock \/ v'.ownBlock = some w.heap.size) -> K (a.put o.dst v') w') :
  if Region.wanted o (yielded ops a.tmps) = true then Oper.wp P o a w K Q else E := by
 rw [if_pos (by simp [Region.wanted, hgd])];exact wJ s x t tx ho base e i z size bytes ht hi hz hsize hby hzs v n xs hs hown y m news hx hsrc h63 hbytes hbase h
theorem DJ {w : World} {base : Nat} {e : TypeId} {size n : Nat} {v : Value} {xs : List Value} (h : w.ownsRow base e size v n xs) (o : Obj) : (w.alloc o).ownsRow base e size v n xs := dW h (ag w o)
theorem xc {a b : Bool} (h : a = b) : Ending.returned (.bool a) = .returned (.bool b) := by rw [h]
theorem qy {k : IntKind} {a b : Int} (h : a = b) : Ending.returned (.int k a) = .returned (.int k b) := by rw [h]
end
theorem wB {P : Program} {w : World} {ops : Array Oper} {rest : List Oper} {o : Oper} {a : Act} {Q : Exit -> Act -> World -> Prop} (hgd : o.guard = none) (ty : TypeId) (x y : Operand) (ho : o.op = .store ty x y) (g j : Nat) (hx : a.eval x = .pointer (some ⟨g, j, none⟩)) (D : List Value) (hy : a.eval y = .agg D.toArray) {C : List Value} {T : TypeId} (hb : aa w g C T) (n : Nat) (hi : (P.info? ty).map (·.size) = some n) (h : ∀ w1, aK w w1 g (C.take j ++ D ++ C.drop (j + n)) T -> wpList P ops Q rest (a.put o.dst undef) w1) (hD : D.length = n := by rfl) (hn : j + n <= C.length := by simp) (h1 : ∀ u ∈ D, u.oneCell' = true := by simp [Value.oneCell']) : wpList P ops Q (o :: rest) a w := FQ hgd ty x y ho g j hx D hy hb n hi hD hn h1 h
namespace Alp
abbrev B := List UInt8
structure Lt where
 text : B
 base : Int
 mark : Int
 cas : Int
 width : Int
def z : Lt := ⟨[], 0, 0, 0, 0⟩
theorem GV {a b : Lt} (h1 : a.text = b.text) (h2 : a.base = b.base) (h3 : a.mark = b.mark) (h4 : a.cas = b.cas) (h5 : a.width = b.width) : a = b := by
 cases a; cases b; simp_all
instance : DecidableEq Lt := fun a b => decidable_of_iff (a.text = b.text /\ a.base = b.base /\ a.mark = b.mark /\ a.cas = b.cas /\ a.width = b.width)
 ⟨fun h => GV h.1 h.2.1 h.2.2.1 h.2.2.2.1 h.2.2.2.2, fun h => by subst h; exact ⟨rfl, rfl, rfl, rfl, rfl⟩⟩
def marks : B := [45, 35, 46, 124, 40, 41, 42, 63, 123, 125, 62, 47, 95, 126, 59, 58, 44, 61, 34, 64]
def jL (c : UInt8) : Bool := decide (48 <= c.toNat) && decide (c.toNat <= 57)
def iO (c : UInt8) : Bool := decide (c.toNat < 33) || (jL c || marks.contains c)
def plain (t : B) : Bool := decide (1 <= t.length) && (decide (t.length <= 4) && t.all fun c => !iO c)
theorem sH (t : B) : plain t = true ↔ 1 <= t.length /\ t.length <= 4 /\ ∀ c ∈ t, iO c = false := by
 unfold plain;simp
def dP : List Lt -> B -> Option Nat
 |[], _ => none
 |l :: L, t => if l.text = t then some 0 else (dP L t).map (· + 1)
theorem zq {L : List Lt} {t : B} : dP L t = none ↔ ∀ l ∈ L, l.text ≠ t := by
 induction L with
 |nil => simp [dP]
 |cons l L ih =>
  unfold dP
  by_cases h : l.text = t
  ·simp [h]
  ·simp [h, ih]
theorem sG (L : List Lt) (l : Lt) (t : B) : dP (L ++ [l]) t = match dP L t with | some i => some i | none => if l.text = t then some L.length else none := by
 induction L with
 |nil => simp [dP]
 |cons a L ih =>
  simp only [List.cons_append, dP]
  by_cases he : a.text = t
  ·simp [he]
  ·rw [if_neg he, if_neg he, ih]
   cases hi : dP L t with
   |some k => simp
   |none =>
    by_cases hl : l.text = t <;> simp [hl]
def ic (L : List Lt) : List B := L.map (·.text)
theorem xL {L : List Lt} {i : Nat} (h : i < L.length) : L.getD i z = L[i] := by simp [List.getD, h]
theorem dG {L : List Lt} {i : Nat} (h : i < L.length) : L.getD i z ∈ L := by rw [xL h]; exact List.getElem_mem h
theorem vY (L : List Lt) (l : Lt) : (ic (L ++ [l])).Nodup ↔ (ic L).Nodup /\ dP L l.text = none := by
 have e : ic (L ++ [l]) = ic L ++ [l.text] := by simp [ic]
 rw [e, List.nodup_append, zq];simp only [ic, List.mem_map, List.mem_singleton];constructor
 ·rintro ⟨h1, _, h3⟩;exact ⟨h1, fun a ha => h3 a.text ⟨a, ha, rfl⟩ l.text rfl⟩
 ·rintro ⟨h1, h2⟩;refine ⟨h1, by simp, ?_⟩;rintro a ⟨x, hx, rfl⟩ b rfl;exact h2 x hx
def lok (L : List Lt) (n : Nat) (l : Lt) : Bool :=
 plain l.text && (decide (0 <= l.base /\ l.base < L.length) && (decide ((L.getD l.base.toNat z).base = l.base) && (decide (0 <= l.mark /\ l.mark <= 15) && (decide (0 <= l.cas /\ l.cas <= 1) &&
 (decide (1 <= l.width /\ l.width <= 1000) && decide (l.base ≠ n \/ (l.mark = 0 /\ l.cas = 0)))))))
def ko (L : List Lt) (n : Nat) : Bool := lok L n (L.getD n z)
def jS (L : List Lt) : Bool := decide (1 <= L.length) && (decide (L.length <= 60) && ((List.range L.length).all (ko L) && decide (ic L).Nodup))
theorem pq (L : List Lt) : jS L = true ↔ 1 <= L.length /\ L.length <= 60 /\ (∀ n, n < L.length -> ko L n = true) /\ (ic L).Nodup := by
 unfold jS;simp
theorem sW (L : List Lt) (n : Nat) (l : Lt) : lok L n l = true ↔ plain l.text = true /\ (0 <= l.base /\ l.base < L.length) /\ (L.getD l.base.toNat z).base = l.base /\ (0 <= l.mark /\ l.mark <= 15) /\ (0 <= l.cas /\ l.cas <= 1) /\ (1 <= l.width /\ l.width <= 1000) /\ (l.base ≠ n \/ (l.mark = 0 /\ l.cas = 0)) := by
 unfold lok;simp [and_assoc]
end Alp
end Go.Proofs.YtakcjlimbabbfaaGreatDoor
section
namespace Go.Proofs
open Go.RowKit Go.Lib
theorem G8 (s : ByteArray) (c : Int) (w : World) : Calls Tryz.prog 170 #[.string s, .int .u8 c] w fun e w' => e = .returned (.int .i64 (Lib.indexByte s.data.toList c.toNat.toUInt8)) /\ w' = w := by
 go_enter Tryz.func170, Tryz.ntmps170
 go_wp2
 rw [run_callFunc_extern Tryz.func179 (by kernel_rfl) (by kernel_rfl) (by kernel_rfl) (e := Extern.BytealgIndexByte.indexByte) (by kernel_rfl), Lib.run_indexByteString];simp only [Result.andThen];rw [Oper.upon_value]
 go_wp2
 go_ret;exact ⟨rfl, rfl⟩
theorem y7 (s : ByteArray) (c : Int) (w : World) : Calls Tryz.prog 151 #[.string s, .int .u8 c] w fun e w' => e = .returned (.int .i64 (Lib.indexByte s.data.toList c.toNat.toUInt8)) /\ w' = w := by
 go_enter Tryz.func151, Tryz.ntmps151
 go_wp2_with ((with_reducible refine (G8 _ _ _).mono ?_); rintro e w' ⟨rfl, rfl⟩)
 go_ret;exact ⟨rfl, rfl⟩
end Go.Proofs
end
namespace Go.Proofs.YtakcjlimbabbfaaGreatDoor
open Go.RowKit
open Alp
def pI (w : World) (b : Bool) (e : Ending) (w' : World) : Prop := e = .returned (.bool b) /\ w = w'
theorem Gx {c : UInt8} (h : jL c = true) : 48 <= c.toNat /\ c.toNat <= 57 := by unfold jL at h; simpa using h
theorem Cv {c : UInt8} (h : jL c = false) : c.toNat < 48 \/ 57 < c.toNat := by
 unfold jL at h
 by_cases h1 : 48 <= c.toNat
 ·right
  simp [h1] at h;exact h
 ·exact .inl (by omega)
theorem GR (c : UInt8) (w : World) : Calls Tryz.prog 173 #[.int .u8 c.toNat] w (pI w (jL c)) := by
 have hc : c.toNat < 256 := c.toNat_lt
 cases h : jL c
 ·rcases Cv h with h1 | h1
  ·clear h;go_enter Tryz.func173, Tryz.ntmps173
   go_wp2
   go_ret;exact ⟨rfl, rfl⟩
  ·clear h;have hd : decide ((c.toNat : Int) <= 57) = false := dF (by omega);go_enter Tryz.func173, Tryz.ntmps173
   go_wp2
   go_ret;exact ⟨rfl, rfl⟩
 ·obtain ⟨h1, h2⟩ := Gx h;clear h;have hd : decide ((c.toNat : Int) <= 57) = true := dT (by omega);go_enter Tryz.func173, Tryz.ntmps173
  go_wp2
  go_ret;exact ⟨rfl, rfl⟩
theorem Dc (l : List UInt8) (c : UInt8) : (0 <= Lib.indexByte l c) ↔ c ∈ l := by
 have hg := Lib.indexByte_ge l c;constructor
 ·intro h;obtain ⟨o, ho⟩ : ∃ o : Nat, Lib.indexByte l c = o := ⟨(Lib.indexByte l c).toNat, by omega⟩;exact List.mem_of_getElem? (Lib.indexByte_some ho).1
 ·intro h
  rcases Int.lt_or_le (Lib.indexByte l c) 0 with h1 | h1
  ·have h2 : Lib.indexByte l c = -1 := by omega
   obtain ⟨k, hk, e⟩ := List.getElem_of_mem h;exact absurd (by rw [List.getElem?_eq_getElem hk, e]) (Lib.indexByte_none h2 k)
  ·exact h1
theorem BM {c : UInt8} (h : jL c = true) : iO c = true := by unfold iO; rw [h]; simp
theorem FZ {c : UInt8} (h : c.toNat < 33) : iO c = true := by unfold iO; simp [h]
theorem Gd {c : UInt8} (h1 : ¬ c.toNat < 33) (h2 : jL c = false) : iO c = decide (c ∈ marks) := by unfold iO; rw [h2, dF h1]; simp [List.contains_eq_mem]
theorem Gh (c : UInt8) (w : World) : Calls Tryz.prog 151 #[.string ⟨#[45, 35, 46, 124, 40, 41, 42, 63, 123, 125, 62, 47, 95, 126, 59, 58, 44, 61, 34, 64]⟩, .int .u8 c.toNat] w fun e w' => e = .returned (.int .i64 (Lib.indexByte marks c)) /\ w = w' :=
 (y7 _ _ w).mono fun e w' ⟨he, hw⟩ => ⟨by rw [he]; show Ending.returned (.int .i64 (Lib.indexByte marks ((c.toNat : Int).toNat.toUInt8))) = _; rw [Int.toNat_natCast]; simp, hw.symm⟩
theorem zA (c : UInt8) (w : World) : Calls Tryz.prog 158 #[.int .u8 c.toNat] w (pI w (iO c)) := by
 have hc : c.toNat < 256 := c.toNat_lt
 by_cases h1 : c.toNat < 33
 ·rw [FZ h1];go_enter Tryz.func158, Tryz.ntmps158;go_wp2_with fail;go_ret;exact ⟨rfl, rfl⟩
 ·have HD := Lh fun W => GR c W
  have hdl : decide ((c.toNat : Int) < 33) = false := dF (by omega)
  cases h2 : jL c
  ·rw [Gd h1 h2];rw [h2] at HD;have HX := Lh fun W => Gh c W
   obtain ⟨x, hx⟩ : ∃ x, x = Lib.indexByte marks c := ⟨_, rfl⟩;have hm := Dc marks c;rw [<- hx] at HX hm
   by_cases h3 : 0 <= x
   ·rw [dT (hm.1 h3)];clear hm hx h2;go_enter Tryz.func158, Tryz.ntmps158
    go_wp2_with (first
     |((with_reducible refine (HD.out _).mono ?_); rintro e w1 ⟨rfl, rfl⟩)
     |((with_reducible refine (HX.out _).mono ?_); rintro e w1 ⟨rfl, rfl⟩))
    go_ret;exact ⟨rfl, rfl⟩
   ·rw [dF (fun h => h3 (hm.2 h))];have hd : decide (0 <= x) = false := dF h3;clear hm hx h2;go_enter Tryz.func158, Tryz.ntmps158
    go_wp2_with (first
     |((with_reducible refine (HD.out _).mono ?_); rintro e w1 ⟨rfl, rfl⟩)
     |((with_reducible refine (HX.out _).mono ?_); rintro e w1 ⟨rfl, rfl⟩))
    go_ret;exact ⟨rfl, rfl⟩
  ·rw [BM h2];rw [h2] at HD;clear h2;go_enter Tryz.func158, Tryz.ntmps158
   go_wp2_with ((with_reducible refine (HD.out _).mono ?_); rintro e w1 ⟨rfl, rfl⟩)
   go_ret;exact ⟨rfl, rfl⟩
theorem Cm {t : B} (h : t.length < 1 \/ 4 < t.length) : plain t = false := by
 rw [Bool.eq_false_iff];intro e;have := (sH t).1 e;omega
theorem zS {t : B} {k : Nat} (hk : k < t.length) (h : iO t[k] = true) : plain t = false := by
 rw [Bool.eq_false_iff];intro e;have := ((sH t).1 e).2.2 _ (List.getElem_mem hk);rw [h] at this
 cases this
theorem DU {t : B} (h1 : 1 <= t.length) (h2 : t.length <= 4) (h : ∀ j (hj : j < t.length), iO t[j] = false) : plain t = true :=
 (sH t).2 ⟨h1, h2, fun c hc => by
   obtain ⟨j, hj, rfl⟩ := List.getElem_of_mem hc;exact h j hj⟩
theorem Fp (t : B) (ht : t.length <= maxLen) (w : World) : Calls Tryz.prog 137 #[.string (tb t)] w (pI w (plain t)) := by
 unfold maxLen at ht;obtain ⟨m, hm⟩ : ∃ m, m = t.length := ⟨_, rfl⟩;have hsz : (tb t).size = m := by rw [fP, hm]
 by_cases hs : m < 1 \/ 4 < m
 ·rw [Cm (by rw [<- hm]; exact hs)];rw [<- hm] at ht;clear hm
  rcases hs with h1 | h1
  ·go_enter Tryz.func137, Tryz.ntmps137;go_wp2_with fail;go_ret;exact ⟨rfl, rfl⟩
  ·go_enter Tryz.func137, Tryz.ntmps137;go_wp2_with fail;go_ret;exact ⟨rfl, rfl⟩
 ·have h1 : 1 <= m := by omega
  have h2 : m <= 4 := by omega
  obtain ⟨b, hb⟩ : ∃ b, b = plain t := ⟨_, rfl⟩;rw [<- hb];have HM := Lh hm;have HB := Lh hb;clear hm hs ht hb;go_enter Tryz.func137, Tryz.ntmps137;go_wp2_with fail
  go_loopg [3, 14] m (fun g s3 s14 wr => ∃ (k : Nat), k + g = m /\ s14 = .int .i64 (k : Int) /\ Hid (∀ j (hj : j < t.length), j < k -> iO t[j] = false) /\ w = wr)
  case atStart => exact ⟨0, by omega, rfl, Lh fun j _ h => by omega, rfl⟩
  case round =>
   obtain ⟨k, hk, rfl, HF, rfl⟩ := hrel
   by_cases hlt : k < m
   ·obtain ⟨g, rfl⟩ : ∃ g, gk = g + 1 := ⟨gk - 1, by omega⟩;have hkl : k < t.length := by rw [<- HM.out]; exact hlt
    obtain ⟨c, hc⟩ : ∃ c, c = t[k] := ⟨_, rfl⟩;have hg : (tb t)[k]'(by rw [hsz]; exact hlt) = c := by rw [hc]; rfl
    have HR := Lh fun W => zA c W
    have HC := Lh hc;clear hc
    cases hr : iO c
    ·rw [hr] at HR;have HR2 := Lh hr;clear hr
     go_wp2_with ((with_reducible refine (HR.out _).mono ?_); rintro e w1 ⟨rfl, rfl⟩)
     go_roundg g
     case rel => exact ⟨k + 1, by omega, by go_num, Lh fun j hj hjk => by
      rcases Nat.lt_or_ge j k with h | h
      ·exact HF.out j hj h
      ·obtain rfl : j = k := by omega
       rw [<- HC.out]; exact HR2.out, rfl⟩
     case measure => omega
    ·rw [hr] at HR;have HE : Hid (b = false) := Lh (by rw [HB.out]; exact zS hkl (by rw [<- HC.out]; exact hr));clear hr
     go_wp2_with ((with_reducible refine (HR.out _).mono ?_); rintro e w1 ⟨rfl, rfl⟩)
     go_ret;exact ⟨xc HE.out.symm, rfl⟩
   ·obtain rfl : k = m := by omega
    have HE : Hid (b = true) := Lh (by rw [HB.out]; exact DU (by rw [<- HM.out]; exact h1) (by rw [<- HM.out]; exact h2) fun j hj => HF.out j hj (by rw [HM.out]; exact hj));go_wp2_with fail;go_ret;exact ⟨xc HE.out.symm, rfl⟩
theorem FU (A : Option Addr) (n c : Nat) (x : Int) (w : World) (b : Bool) (hb : b = decide (0 <= x /\ x < n)) : Calls Tryz.prog 138 #[.slice A n c, .int .i64 x] w (pI w b) := by
 subst hb
 by_cases h1 : 0 <= x
 ·by_cases h2 : x < n
  ·have e : decide (0 <= x /\ x < n) = true := dT ⟨h1, h2⟩;rw [e];clear e;go_enter Tryz.func138, Tryz.ntmps138
   go_wp2
   go_ret;exact ⟨rfl, rfl⟩
  ·have e : decide (0 <= x /\ x < n) = false := dF fun h => h2 h.2
   rw [e];clear e;go_enter Tryz.func138, Tryz.ntmps138
   go_wp2
   go_ret;exact ⟨rfl, rfl⟩
 ·have e : decide (0 <= x /\ x < n) = false := dF fun h => h1 h.1
  rw [e];clear e;go_enter Tryz.func138, Tryz.ntmps138
  go_wp2
  go_ret;exact ⟨rfl, rfl⟩
def lc (l : Lt) : List Value := [.string (tb l.text), .int .i64 l.base, .int .i64 l.mark, .int .i64 l.cas, .int .i64 l.width]
def lv (L : List Lt) : List Value := L.flatMap lc
theorem nX (l : Lt) : (lc l).length = 5 := rfl
theorem FV (L : List Lt) : (lv L).length = 5 * L.length := by
  induction L with
  | nil => rfl
  | cons a L ih => have : lv (a :: L) = lc a ++ lv L := by simp [lv]
                   rw [this, List.length_append, ih, nX, List.length_cons]; omega
theorem EW {L : List Lt} (h : L ≠ []) : lv L ≠ [] := by
 intro e;have := congrArg List.length e;rw [FV, List.length_nil] at this;exact h (List.eq_nil_of_length_eq_zero (by omega))
theorem zi (L : List Lt) (k : Nat) (h : k < L.length) (j : Nat) (hj : j < 5) : (lv L)[k * 5 + j]? = (lc (L.getD k z))[j]? := by
 induction L generalizing k with
 |nil => simp at h
 |cons a L ih =>
  have e : lv (a :: L) = lc a ++ lv L := by simp [lv]
  rw [e]
  cases k with
  |zero => rw [Nat.zero_mul, Nat.zero_add, List.getElem?_append_left (by rw [nX]; exact hj)]; simp
  |succ k =>
   rw [List.getElem?_append_right (by rw [nX]; omega), nX, show (k + 1) * 5 + j - 5 = k * 5 + j by omega, ih k (by simpa using h)];simp
def RL (w : World) (b o : Nat) (L : List Lt) : Prop := ∀ k, k < L.length -> ∀ j v, (lc (L.getD k z))[j]? = some v -> w.cell? ⟨b, o + k * 5 + j, none⟩ = some v
theorem mf {w : World} {A : Option Addr} {L : List Lt} (h : Rd w A (lv L)) (hn : L ≠ []) : ∃ b o, A = some ⟨b, o, none⟩ /\ RL w b o L := by
 obtain ⟨b, o, hA, hc⟩ := h.open (EW hn);refine ⟨b, o, hA, fun k hk j v hv => ?_⟩;have hj : j < 5 := by have := (List.getElem?_eq_some_iff.1 hv).1; rwa [nX] at this
 rw [Nat.add_assoc];exact hc (k * 5 + j) v (by rw [zi L k hk j hj]; exact hv)
theorem RL.below {w w' : World} {b o : Nat} {L : List Lt} (h : RL w b o L) (hb : Below w.heap.size w w') : RL w' b o L := fun k hk j v hv => by
 have h1 := h k hk j v hv;exact (hb.cell (p := ⟨b, o + k * 5 + j, none⟩) (World.block_lt_of_cell? w _ h1)).trans h1
theorem RL.c0 {w : World} {b o : Nat} {L : List Lt} (h : RL w b o L) {k : Nat} (hk : k < L.length) {l : Lt} (hl : l = L.getD k z) : w.cell? ⟨b, o + k * 5, none⟩ = some (.string (tb l.text)) := by subst hl; exact h k hk 0 _ rfl
theorem RL.c1 {w : World} {b o : Nat} {L : List Lt} (h : RL w b o L) {k : Nat} (hk : k < L.length) {l : Lt} (hl : l = L.getD k z) : w.cell? ⟨b, o + k * 5 + 1, none⟩ = some (.int .i64 l.base) := by subst hl; exact h k hk 1 _ rfl
theorem RL.c2 {w : World} {b o : Nat} {L : List Lt} (h : RL w b o L) {k : Nat} (hk : k < L.length) {l : Lt} (hl : l = L.getD k z) : w.cell? ⟨b, o + k * 5 + 2, none⟩ = some (.int .i64 l.mark) := by subst hl; exact h k hk 2 _ rfl
theorem RL.c3 {w : World} {b o : Nat} {L : List Lt} (h : RL w b o L) {k : Nat} (hk : k < L.length) {l : Lt} (hl : l = L.getD k z) : w.cell? ⟨b, o + k * 5 + 3, none⟩ = some (.int .i64 l.cas) := by subst hl; exact h k hk 3 _ rfl
theorem RL.c4 {w : World} {b o : Nat} {L : List Lt} (h : RL w b o L) {k : Nat} (hk : k < L.length) {l : Lt} (hl : l = L.getD k z) : w.cell? ⟨b, o + k * 5 + 4, none⟩ = some (.int .i64 l.width) := by subst hl; exact h k hk 4 _ rfl
theorem RL.range {w : World} {b o : Nat} {L : List Lt} (h : RL w b o L) {k : Nat} (hk : k < L.length) {l : Lt} (hl : l = L.getD k z) : w.rangeAt b (o + k * 5) (lc l) := by subst hl; exact fun j v hv => h k hk j v hv
theorem Tryz.sizeLt : (Tryz.prog.info? 90).map (·.size) = some 5 := by kernel_rfl
theorem gX {w : World} {ops : Array Oper} {rest : List Oper} {o : Oper} {a : Act} {Q : Exit -> Act -> World -> Prop} (hgd : o.guard = none) (x : Operand) (ho : o.op = .load 90 x)
  (g q : Nat) (hx : a.eval x = .pointer (some ⟨g, q, none⟩)) (l : Lt) (hc : w.rangeAt g q (lc l))
  (h : wpList Tryz.prog ops Q rest (a.put o.dst (.agg #[.string (tb l.text), .int .i64 l.base, .int .i64 l.mark, .int .i64 l.cas, .int .i64 l.width])) w) : wpList Tryz.prog ops Q (o :: rest) a w :=
 wpList_load_mid hgd 90 x ho g q hx (lc l) _ hc Tryz.underlying90 rfl Tryz.sizeLt h
theorem sV : Go.Maps.Keyed Tryz.prog 9 := Go.Maps.string_keyed Tryz.underlying9
theorem GJ (w : World) : (zeroValue 3).run Tryz.prog w = .ok (.int .i64 0) w := by kernel_rfl
def key (t : B) : Lit := .string t
theorem xR {t : B} (h : t.length <= maxLen) : keyOf Tryz.prog 9 (.string (tb t)) = some (key t) := Go.WideMaps.keyOf_string_mk Tryz.underlying9 (by rw [fP]; exact h)
theorem u6 (t : B) : WideAt.IsKeyLit (key t) := trivial
theorem yC {s t : B} (h : s ≠ t) : key s ≠ key t := fun e => h (by unfold key at e; simpa using e)
def eU (w : World) (m : Nat) (L : List Lt) : Prop := ∃ (D : DataW Unit) (n : Nat), w.ownsMap Tryz.prog 9 (plainElem Tryz.prog 3) m n D /\ n <= L.length /\ (∀ t, Go.Maps.has D (key t) = (dP L t).isSome) /\
 (∀ t i, dP L t = some i -> ∀ zd, D.atKey (key t) zd = .lit (.int .i64 (i : Int))) /\ Go.Maps.size D <= L.length /\ (Go.Maps.size D = L.length ↔ (ic L).Nodup)
theorem eU.made (w : World) : eU (w.alloc (.map #[] 0)) w.heap.size [] :=
 ⟨_, 0, World.ownsMap_made w _ _ _, Nat.le_refl _, fun t => rfl, fun t i h => by simp [dP] at h, Nat.le_refl _, by simp [ic, Go.Maps.size]⟩
theorem eU.below {w w' : World} {m : Nat} {L : List Lt} (h : eU w m L) (hb : Below w.heap.size w w') : eU w' m L := by
 obtain ⟨D, n, h1, h2⟩ := h;exact ⟨D, n, h1.kept (row := none) ⟨hb.os, hb.tape, hb.output, hb.size, fun k hk _ => hb.block k hk⟩ (by simp), h2⟩
theorem eU.skip {w : World} {m : Nat} {L : List Lt} {l : Lt} (h : eU w m L) (hi : (dP L l.text).isSome = true) : eU w m (L ++ [l]) := by
 obtain ⟨i, hi⟩ := Option.isSome_iff_exists.1 hi;obtain ⟨D, n, h1, h2, h3, h4, h5, h6⟩ := h;have e : ∀ t, dP (L ++ [l]) t = dP L t := fun t => by
  rw [sG]
  cases ht : dP L t with
  |some k => rfl
  |none =>
   by_cases hl : l.text = t
   ·subst hl; rw [hi] at ht; cases ht
   ·simp [hl]
 refine ⟨D, n, h1, by simp; omega, fun t => by rw [e]; exact h3 t, fun t k hk => h4 t k (by rw [<- e]; exact hk), by simp; omega, ?_⟩;rw [vY, hi];simp;omega
theorem eU.put {w w' : World} {m : Nat} {L : List Lt} {l : Lt} {D : DataW Unit} {n : Nat} (h1 : w.ownsMap Tryz.prog 9 (plainElem Tryz.prog 3) m n D) (h2 : n <= L.length) (h3 : ∀ t, Go.Maps.has D (key t) = (dP L t).isSome)
  (h4 : ∀ t i, dP L t = some i -> ∀ zd, D.atKey (key t) zd = .lit (.int .i64 (i : Int))) (h5 : Go.Maps.size D <= L.length) (h6 : Go.Maps.size D = L.length ↔ (ic L).Nodup) (hi : dP L l.text = none)
  (hw : w'.ownsMap Tryz.prog 9 (plainElem Tryz.prog 3) m (n + 1) (D.put (key l.text) (.lit (.int .i64 (L.length : Int))))) : eU w' m (L ++ [l]) := by
 have hT := h1.tidy sV;refine ⟨_, n + 1, hw, by simp; omega, fun t => ?_, fun t i ht zd => ?_, ?_, ?_⟩
 ·rw [sG]
  by_cases e : l.text = t
  · subst e;rw [Go.Maps.has_put_same hT.isMap (u6 _), hi];simp
  · rw [Go.Maps.has_put_other (yC (Ne.symm e)), h3 t]
    cases dP L t <;> simp [e]
 ·rw [sG] at ht
  by_cases e : l.text = t
  · subst e;rw [hi] at ht;simp at ht;subst ht;exact Go.Maps.atKey_put_same hT.isMap (u6 _) _ _
  · rw [Go.Maps.atKey_put_other (yC (Ne.symm e))]
    cases hx : dP L t with
    |none => rw [hx] at ht; simp [e] at ht
    |some k => rw [hx] at ht; exact h4 t i (hx.trans ht) zd
 ·rw [Go.Maps.size_put hT, h3, hi];simp;omega
 ·rw [Go.Maps.size_put hT, h3, hi, vY, <- h6];simp [hi]
theorem xJ {w : World} {ops : Array Oper} {rest : List Oper} {o : Oper} {a : Act} {Q : Exit -> Act -> World -> Prop} (hgd : o.guard = none) (m x : Operand) (hop : o.op = Op.lookup 98 m x true)
  (mb : Nat) (hm : a.eval m = .map (some mb)) {L : List Lt} (hM : eU w mb L) (t : B) (ht : t.length <= maxLen) (hx : a.eval x = .string (tb t)) (v : Int) (b : Bool) (hv : v = (((dP L t).getD 0 : Nat) : Int)) (hb : b = (dP L t).isSome)
  (h : wpList Tryz.prog ops Q rest (a.put o.dst (.tuple #[.int .i64 v, .bool b])) w) : wpList Tryz.prog ops Q (o :: rest) a w := by
 obtain ⟨D, n, h1, h2, h3, h4, _, _⟩ := hM;refine wpList_lookup_own_ok_int w hgd m x 98 hop 9 3 .i64 sV Tryz.underlying98 Tryz.underlying3 (GJ w) mb n D hm h1 _ (key t) hx (xR ht) ?_;intro c hat _;have hc : c = v := by
  cases hi : dP L t with
  | none =>
    have hh : Go.Maps.has D (key t) = false := by rw [h3, hi]; rfl
    rw [Go.Maps.atKey_of_not_has hh] at hat;rw [hi] at hv;simp at hat hv;rw [hv, <- hat]
  | some i =>
    rw [h4 t i hi] at hat;rw [hi] at hv;simp at hat hv;rw [hv, <- hat]
 rw [hc, h3, <- hb];exact h
theorem EJ {w : World} {ops : Array Oper} {rest : List Oper} {o : Oper} {a : Act} {Q : Exit -> Act -> World -> Prop} (hgd : o.guard = none) (m x v : Operand) (hop : o.op = Op.mapUpdate 98 m x v)
  (mb : Nat) (hm : a.eval m = .map (some mb)) {L : List Lt} (hM : eU w mb L) (l : Lt) (ht : l.text.length <= maxLen) (hx : a.eval x = .string (tb l.text)) (hi : dP L l.text = none) (k : Nat) (hlk : L.length = k) (hl : k < maxLen) (hv : a.eval v = .int .i64 (k : Int))
  (h : ∀ w', eU w' mb (L ++ [l]) -> w.grownBy w' (some mb) -> wpList Tryz.prog ops Q rest (a.put o.dst undef) w') : wpList Tryz.prog ops Q (o :: rest) a w := by
 subst hlk;obtain ⟨D, n, h1, h2, h3, h4, h5, h6⟩ := hM;refine wpList_mapUpdate_own w hgd m x v 98 hop 9 3 sV Tryz.underlying98 _ mb n D hm h1 (by omega) _ _ (key l.text) hx hv (xR ht) _ [] (plainElem_int Tryz.underlying3 (WalkArith.wf_i64 (by unfold maxLen at hl; omega))) ?_;intro w' hw hg;exact h w' (eU.put h1 h2 h3 h4 h5 h6 hi hw) hg
theorem BQ {P : Program} {t k e : TypeId} (ht : P.underlying t = some (.map k e)) (q : IntKind) (n : Int) (w : World) : (Instr.makeMap t (some (.int q n))).run P w = .ok (.map (some w.heap.size)) (w.alloc (.map #[] 0)) := by
 simp [Instr.makeMap, run_underlying ht, asInt, asIntOf, Result.andThen]
def oN (w : World) (L : List Lt) (e : Ending) (w' : World) : Prop := ∃ m, e = .returned (.map (some m)) /\ w.heap.size <= m /\ eU w' m L /\ Below w.heap.size w w'
theorem Ez {w w' : World} {L : List Lt} {e : Ending} (h : oN w L e w') : ∃ m, e = .returned (.map (some m)) /\ w.heap.size <= m /\ eU w' m L /\ Below w.heap.size w w' := h
theorem zm (L : List Lt) (n : Nat) (hn : n = L.length) (b o c : Nat) (hc : n <= c) (hm : c <= maxLen) (hs : ∀ l ∈ L, l.text.length <= maxLen) (w : World) (hr : RL w b o L) :
  Calls Tryz.prog 114 #[.slice (some ⟨b, o, none⟩) n c] w (oN w L) := by
 have hm' : c <= 9223372036854775807 := by unfold maxLen at hm; omega
 have HN := Lh hn;have HR := Lh hr;have HS := Lh hs;have hmm := fun q n w => BQ Tryz.underlying98 q n w
 clear hn hr hs;go_enter Tryz.func114, Tryz.ntmps114;go_wp2_with fail
 go_loopg [13] n (fun g s13 wr => ∃ (k : Nat), k + g = n /\ s13 = .int .i64 (k : Int) /\ Hid (eU wr w.heap.size (L.take k) /\ Below w.heap.size w wr))
 case atStart => exact ⟨0, by omega, rfl, Lh ⟨by rw [List.take_zero]; exact eU.made w, ag _ _⟩⟩
 case round =>
  obtain ⟨k, hk, rfl, HI⟩ := hrel
  by_cases hlt : k < n
  ·obtain ⟨g, rfl⟩ : ∃ g, gk = g + 1 := ⟨gk - 1, by omega⟩;obtain ⟨l, hl⟩ : ∃ l, l = L.getD k z := ⟨_, rfl⟩;have hkl : k < L.length := by rw [<- HN.out]; exact hlt
   have HT : Hid (L.take (k + 1) = L.take k ++ [l]) := Lh (by rw [List.take_succ_eq_append_getElem hkl, hl, xL hkl]);have HX : Hid (wr.rangeAt b (o + k * 5) (lc l)) := Lh ((HR.out.below (w' := wr) HI.out.2).range hkl hl);have HLE := Lh hl;clear hl;have HL : Hid (l.text.length <= maxLen) := Lh (HS.out l (by rw [HLE.out]; exact dG hkl));have hkm : (L.take k).length = k := by rw [List.length_take]; omega
   have HK := Lh hkm;have hkx : k < maxLen := by omega
   clear hkm
   cases hi : dP (L.take k) l.text with
   |some i =>
    have HI2 := Lh hi;clear hi
    go_wp2_with (first
     |(refine gX rfl (.tmp 16) rfl b (o + k * 5) rfl l HX.out ?_)
     |(refine xJ rfl (.tmp 19) (.tmp 21) rfl w.heap.size rfl (HI.out.1.below (ag _ _)) l.text HL.out rfl (i : Int) true (by rw [HI2.out]; rfl) (by rw [HI2.out]; rfl) ?_))
    go_roundg g
    case rel => exact ⟨k + 1, by omega, by go_num, Lh ⟨by rw [HT.out]; exact (HI.out.1.below (ag _ _)).skip (by rw [HI2.out]; rfl), aB HI.out.2 _⟩⟩
    case measure => omega
   |none =>
    have HI2 := Lh hi;clear hi
    go_wp2_with (first
     |(refine gX rfl (.tmp 16) rfl b (o + k * 5) rfl l HX.out ?_)
     |(refine xJ rfl (.tmp 19) (.tmp 21) rfl w.heap.size rfl (HI.out.1.below (ag _ _)) l.text HL.out rfl 0 false (by rw [HI2.out]; rfl) (by rw [HI2.out]; rfl) ?_)
     |(refine EJ rfl (.tmp 27) (.tmp 29) (.tmp 30) rfl w.heap.size rfl (HI.out.1.below (ag _ _)) l HL.out rfl HI2.out k HK.out hkx rfl ?_; intro w2 hm2 hg2; have HX2 : Hid (eU w2 w.heap.size (L.take (k + 1)) /\ Below w.heap.size w w2) := Lh ⟨by rw [HT.out]; exact hm2, (aB HI.out.2 _).grown hg2 (aB HI.out.2 _).size (fun g hg => Nat.le_of_eq (Option.some.inj hg))⟩; clear hm2 hg2))
    go_roundg g
    case rel => exact ⟨k + 1, by omega, by go_num, HX2⟩
    case measure => omega
  ·obtain rfl : k = n := by omega
   have HE : Hid (oN w L (.returned (.map (some w.heap.size))) wr) := Lh ⟨w.heap.size, rfl, Nat.le_refl _, by have := HI.out.1; rwa [HN.out, List.take_length] at this, HI.out.2⟩;go_wp2_with fail;go_ret;exact HE.out
theorem oH {P : Program} {w : World} {ops : Array Oper} {o : Oper} {a : Act} {K : Act -> World -> Prop} {Q : Exit -> Act -> World -> Prop} {E : Prop} (hgd : o.guard = none) (ty : TypeId) (x y : Operand) (ho : o.op = .store ty x y)
  (g : Nat) (hx : a.eval x = .pointer (some ⟨g, 0, none⟩)) (D : List Value) (hy : a.eval y = .agg D.toArray) {C : List Value} {T : TypeId} (hb : aa w g C T) (hi : (P.info? ty).map (·.size) = some D.length) (hD : D.length = C.length) (h1 : ∀ u ∈ D, u.oneCell' = true)
  (h : ∀ w1, aK w w1 g D T -> K (a.put o.dst undef) w1) : if Region.wanted o (yielded ops a.tmps) = true then Oper.wp P o a w K Q else E := by
 rw [if_pos (by simp [Region.wanted, hgd])];refine wp_store_mid ty x y ho g 0 D.toArray hx hy (hb.there 0 _ (by simpa using Nat.le_of_eq hD)) (by simpa using hi) (all_oneCell_toArray h1) ?_;have := aK.of_setCells hb 0 D (by omega);rw [List.take_zero, List.nil_append, List.drop_of_length_le (by omega), List.append_nil] at this;exact h _ this
theorem aa.of_heap {w W : World} {B : Nat} {C : List Value} {T : TypeId} (h : aa w B C T) (e : W.heap = w.heap) : aa W B C T := by unfold aa; rw [e]; exact h
theorem aK.cell {w w1 : World} {g : Nat} {D : List Value} {T : TypeId} (h : aK w w1 g D T) {b o : Nat} {v : Value} (hb : b ≠ g) (hc : w.cell? ⟨b, o, none⟩ = some v) : w1.cell? ⟨b, o, none⟩ = some v := by
 rw [<- hc];exact World.cell?_of_block (h.2.1 b hb)
theorem Dx {w W : World} (e : W.heap = w.heap) (p : Addr) : W.cell? p = w.cell? p := by unfold World.cell?; rw [e]
def IL (w : World) (b o : Nat) (l : List Int) : Prop := ∀ k, k < l.length -> w.cell? ⟨b, o + k, none⟩ = some (.int .i64 (l.getD k 0))
theorem mh {w : World} {A : Option Addr} {l : List Int} (h : Rd w A (iv l)) (hn : l ≠ []) : ∃ b o, A = some ⟨b, o, none⟩ /\ IL w b o l := by
 obtain ⟨b, o, hA, hc⟩ := h.open (Bn hn);exact ⟨b, o, hA, fun k hk => hc k _ (nJ hk)⟩
theorem IL.below {w w' : World} {b o : Nat} {l : List Int} (h : IL w b o l) (hb : Below w.heap.size w w') : IL w' b o l := fun k hk => by
 have h1 := h k hk;exact (hb.cell (p := ⟨b, o + k, none⟩) (World.block_lt_of_cell? w _ h1)).trans h1
theorem IL.at {w w' : World} {b o : Nat} {l : List Int} (h : IL w b o l) (hb : Below w.heap.size w w') {k : Nat} (hk : k < l.length) {x : Int} (hx : x = l.getD k 0) : w'.cell? ⟨b, o + k, none⟩ = some (.int .i64 x) := by subst hx; exact h.below hb k hk
def aQ (a b : Int) : Int := if a < b then -1 else if b < a then 1 else 0
namespace Rgx
inductive Rx where
 |mk (kind : Int) (syms : List Int) (kids : List Rx)
def Rx.kind : Rx -> Int
 |.mk k _ _ => k
def Rx.syms : Rx -> List Int
 |.mk _ s _ => s
def Rx.kids : Rx -> List Rx
 |.mk _ _ ks => ks
theorem gB {r x : Rx} (h : x ∈ r.kids) : SizeOf.sizeOf x < SizeOf.sizeOf r := by
 cases r with
 |mk k s ks =>
  have h1 : SizeOf.sizeOf x < SizeOf.sizeOf ks := List.sizeOf_lt_of_mem h;show SizeOf.sizeOf x < SizeOf.sizeOf (Rx.mk k s ks);rw [Rx.mk.sizeOf_spec];omega
def dL (r : Rx) (i : Nat) : Rx := r.kids.getD i (.mk 0 [] [])
theorem GM {r : Rx} {i : Nat} (h : i < r.kids.length) : dL r i ∈ r.kids := by
 unfold dL;simp only [List.getD, List.getElem?_eq_getElem h, Option.getD_some];exact List.getElem_mem h
def eX : List Int -> Bool
 |[] => true
 |x :: t => decide (0 <= x /\ x < 64) && (match t with | [] => true | y :: _ => decide (x < y)) && eX t
def dI (l : List Int) : Bool := decide (0 < l.length) && eX l
mutual
def ay : Rx -> Bool
 |.mk k s ks => if k < 0 \/ 5 < k then false else if k = 2 then dI s && decide (ks.length = 0) else if 0 < s.length \/ (k <= 1 /\ 0 < ks.length) \/ (k = 5 /\ ks.length ≠ 1) then false else nC ks
def nC : List Rx -> Bool
 |[] => true
 |r :: rs => ay r && nC rs
end
theorem tH : ∀ ks : List Rx, nC ks = ks.all ay
 |[] => by rw [nC]; rfl
 |r :: rs => by rw [nC, tH rs]; rfl
theorem gH (r : Rx) : ay r = if r.kind < 0 \/ 5 < r.kind then false else if r.kind = 2 then dI r.syms && decide (r.kids.length = 0) else if 0 < r.syms.length \/ (r.kind <= 1 /\ 0 < r.kids.length) \/ (r.kind = 5 /\ r.kids.length ≠ 1) then false else r.kids.all ay := by
 cases r with
 |mk k s ks => rw [ay, tH]; rfl
def jh (l : List Int) (i : Nat) : Prop := (0 <= l.getD i 0 /\ l.getD i 0 < 64) /\ (i = 0 \/ l.getD (i - 1) 0 < l.getD i 0)
theorem tN : ∀ l : List Int, eX l = true ↔ ∀ i, i < l.length -> jh l i
 |[] => by simp [eX]
 |[x] => by
  constructor
  ·intro h i hi;obtain rfl : i = 0 := by simpa using hi
   simp [eX] at h;exact ⟨by simpa using h, .inl rfl⟩
  ·intro h;have := (h 0 (by simp)).1;simp [eX]
   simpa using this
 |x :: y :: t => by
  have ih := tN (y :: t);have e : eX (x :: y :: t) = (decide (0 <= x /\ x < 64) && decide (x < y) && eX (y :: t)) := by rw [eX]
  rw [e, Bool.and_eq_true, Bool.and_eq_true, decide_eq_true_eq, decide_eq_true_eq, ih];constructor
  ·rintro ⟨⟨h1, h2⟩, h3⟩ i hi
   cases i with
   |zero => exact ⟨by simpa using h1, .inl rfl⟩
   |succ i =>
    have h4 := h3 i (by simpa using hi);refine ⟨by simpa [jh] using h4.1, .inr ?_⟩
    cases i with
    |zero => simpa using h2
    |succ i =>
     rcases h4.2 with h5 | h5
     ·omega
     ·simpa using h5
  ·intro h;refine ⟨⟨by have := (h 0 (by simp)).1; simpa using this, ?_⟩, fun i hi => ?_⟩
   ·rcases (h 1 (by simp)).2 with h5 | h5
    ·omega
    ·simpa using h5
   ·have h4 := h (i + 1) (by simpa using hi);refine ⟨by simpa [jh] using h4.1, ?_⟩
    cases i with
    |zero => exact .inl rfl
    |succ i =>
     right
     rcases h4.2 with h5 | h5
     ·omega
     ·simpa using h5
theorem FI {l : List Int} (h0 : 0 < l.length) (h : ∀ i, i < l.length -> jh l i) : dI l = true := by
 unfold dI;rw [(tN l).2 h];simp [h0]
theorem xh {l : List Int} {i : Nat} (hi : i < l.length) (h : ¬ jh l i) : dI l = false := by
 rw [Bool.eq_false_iff];intro e;unfold dI at e;rw [Bool.and_eq_true] at e;exact h ((tN l).1 e.2 i hi)
mutual
def av : Rx -> Int
 |.mk _ _ ks => 1 + ah ks
def ah : List Rx -> Int
 |[] => 0
 |r :: rs => av r + ah rs
end
mutual
theorem cO : ∀ r : Rx, 1 <= av r
 |.mk k s ks => by rw [av]; have := dN ks; omega
theorem dN : ∀ rs : List Rx, 0 <= ah rs
 |[] => by rw [ah]; omega
 |r :: rs => by rw [ah]; have := cO r; have := dN rs; omega
end
theorem sj {rs : List Rx} {i : Nat} (hi : i < rs.length) : ah (rs.take (i + 1)) = ah (rs.take i) + av rs[i] := by
 induction rs generalizing i with
 |nil => simp at hi
 |cons r rs ih =>
  cases i with
  |zero => simp [ah]
  |succ i =>
   rw [List.take_succ_cons, List.take_succ_cons, ah, ah, ih (by simpa using hi)];simp;omega
theorem nS {rs : List Rx} (i : Nat) : ah (rs.take i) <= ah rs := by
 induction rs generalizing i with
 |nil => simp
 |cons r rs ih =>
  cases i with
  |zero => have := dN (r :: rs); simpa [ah] using this
  |succ i => rw [List.take_succ_cons, ah, ah]; have := ih i; omega
theorem Gm {r x : Rx} (h : x ∈ r.kids) : av x < av r := by
 cases r with
 |mk k s ks =>
  have h2 : ∀ l : List Rx, x ∈ l -> av x <= ah l := by
   intro l
   induction l with
   |nil => intro h; cases h
   |cons y l ih =>
    intro h;rw [ah];have h3 := dN l;have h4 := cO y
    rcases List.mem_cons.1 h with rfl | h
    ·omega
    ·have := ih h; omega
  rw [av];have := h2 ks h;omega
theorem dA (r : Rx) : av r = 1 + ah r.kids := by cases r; rw [av]; rfl
theorem oW {r : Rx} {i : Nat} (h : i < r.kids.length) : dL r i = r.kids[i] := by unfold dL; simp [List.getD, h]
mutual
def aL : Rx -> Bool
 |.mk k _ ks => if k = 3 then j4 ks else if k = 4 then j5 ks else decide (k = 1 \/ k = 5)
def j4 : List Rx -> Bool
 |[] => true
 |r :: rs => aL r && j4 rs
def j5 : List Rx -> Bool
 |[] => false
 |r :: rs => aL r || j5 rs
end
theorem uE : ∀ ks : List Rx, j4 ks = ks.all aL
 |[] => by rw [j4]; rfl
 |r :: rs => by rw [j4, uE rs]; rfl
theorem xq : ∀ ks : List Rx, j5 ks = ks.any aL
 |[] => by rw [j5]; rfl
 |r :: rs => by rw [j5, xq rs]; rfl
theorem qz (r : Rx) : aL r = if r.kind = 3 then r.kids.all aL else if r.kind = 4 then r.kids.any aL else decide (r.kind = 1 \/ r.kind = 5) := by
 cases r with
 |mk k s ks => rw [aL, uE, xq]; rfl
def bB : List Int -> List Int -> Int
 |[], [] => 0
 |[], _ :: _ => -1
 |_ :: _, [] => 1
 |x :: xs, y :: ys => if aQ x y ≠ 0 then aQ x y else bB xs ys
mutual
def aW : Rx -> Rx -> Int
 |.mk k s ks, .mk k' s' ks' => if aQ k k' ≠ 0 then aQ k k' else if bB s s' ≠ 0 then bB s s' else cmpL ks ks'
def cmpL : List Rx -> List Rx -> Int
 |[], [] => 0
 |[], _ :: _ => -1
 |_ :: _, [] => 1
 |x :: xs, y :: ys => if aW x y ≠ 0 then aW x y else cmpL xs ys
end
theorem jb {a b : Int} : aQ a b = 0 ↔ a = b := by
 unfold aQ
 split
 ·omega
 ·split <;> omega
theorem nE : ∀ {a b : List Int}, bB a b = 0 ↔ a = b
 |[], [] => by simp [bB]
 |[], _ :: _ => by simp [bB]
 |_ :: _, [] => by simp [bB]
 |x :: xs, y :: ys => by
  rw [bB]
  by_cases h : aQ x y = 0
  ·rw [if_neg (by simpa using h), nE, jb.1 h]; simp
  ·rw [if_pos h];constructor
   ·intro e; exact absurd e h
   ·intro e;have h1 : x = y := by injection e
    exact absurd (jb.2 h1) h
mutual
theorem iU : ∀ {a b : Rx}, aW a b = 0 ↔ a = b
 |.mk k s ks, .mk k' s' ks' => by
  rw [aW]
  by_cases h1 : aQ k k' = 0
  ·rw [if_neg (by simpa using h1)]
   by_cases h2 : bB s s' = 0
   ·rw [if_neg (by simpa using h2), uD, jb.1 h1, nE.1 h2]; simp
   ·rw [if_pos h2]
    constructor
    ·intro e; exact absurd e h2
    ·intro e
     have h3 : s = s' := by injection e
     exact absurd (nE.2 h3) h2
  ·rw [if_pos h1]
   constructor
   ·intro e; exact absurd e h1
   ·intro e
    have h3 : k = k' := by injection e
    exact absurd (jb.2 h3) h1
theorem uD : ∀ {a b : List Rx}, cmpL a b = 0 ↔ a = b
 |[], [] => by simp [cmpL]
 |[], _ :: _ => by simp [cmpL]
 |_ :: _, [] => by simp [cmpL]
 |x :: xs, y :: ys => by
  rw [cmpL]
  by_cases h : aW x y = 0
  ·rw [if_neg (by simpa using h), uD, iU.1 h]; simp
  ·rw [if_pos h]
   constructor
   ·intro e; exact absurd e h
   ·intro e
    have h1 : x = y := by injection e
    exact absurd (iU.2 h1) h
end
theorem qH (a b : Rx) : aW a b = if aQ a.kind b.kind ≠ 0 then aQ a.kind b.kind else if bB a.syms b.syms ≠ 0 then bB a.syms b.syms else cmpL a.kids b.kids := by
 cases a with
 |mk k s ks => cases b with
  |mk k' s' ks' => rw [aW]; rfl
theorem pQ {s t : List Int} {i : Nat} (h : i = s.length \/ i = t.length) (hs : i <= s.length) (ht : i <= t.length) : bB (s.drop i) (t.drop i) = aQ s.length t.length := by
 rcases h with h | h
 ·rw [h, List.drop_length]
  cases e : t.drop s.length with
  |nil =>
   have h1 := congrArg List.length e;rw [List.length_drop, List.length_nil] at h1;rw [bB, eq_comm, jb]; omega
  |cons y ys =>
   have h1 := congrArg List.length e;rw [List.length_drop, List.length_cons] at h1;rw [bB]; unfold aQ; rw [if_pos (by omega)]
 ·rw [h, List.drop_length]
  cases e : s.drop t.length with
  |nil =>
   have h1 := congrArg List.length e;rw [List.length_drop, List.length_nil] at h1;rw [bB, eq_comm, jb]; omega
  |cons y ys =>
   have h1 := congrArg List.length e;rw [List.length_drop, List.length_cons] at h1;rw [bB]; unfold aQ; rw [if_neg (by omega), if_pos (by omega)]
theorem vB {s t : List Int} {i : Nat} (hs : i < s.length) (ht : i < t.length) : bB (s.drop i) (t.drop i) = if aQ (s.getD i 0) (t.getD i 0) ≠ 0 then aQ (s.getD i 0) (t.getD i 0) else bB (s.drop (i + 1)) (t.drop (i + 1)) := by
 rw [List.drop_eq_getElem_cons hs, List.drop_eq_getElem_cons ht, bB];simp [List.getD, hs, ht]
theorem lH {s t : List Rx} {i : Nat} (h : i = s.length \/ i = t.length) (hs : i <= s.length) (ht : i <= t.length) : cmpL (s.drop i) (t.drop i) = aQ s.length t.length := by
 rcases h with h | h
 ·rw [h, List.drop_length]
  cases e : t.drop s.length with
  |nil =>
   have h1 := congrArg List.length e;rw [List.length_drop, List.length_nil] at h1;rw [cmpL, eq_comm, jb]; omega
  |cons y ys =>
   have h1 := congrArg List.length e;rw [List.length_drop, List.length_cons] at h1;rw [cmpL]; unfold aQ; rw [if_pos (by omega)]
 ·rw [h, List.drop_length]
  cases e : s.drop t.length with
  |nil =>
   have h1 := congrArg List.length e;rw [List.length_drop, List.length_nil] at h1;rw [cmpL, eq_comm, jb]; omega
  |cons y ys =>
   have h1 := congrArg List.length e;rw [List.length_drop, List.length_cons] at h1;rw [cmpL]; unfold aQ; rw [if_neg (by omega), if_pos (by omega)]
theorem tK {s t : List Rx} {i : Nat} (hs : i < s.length) (ht : i < t.length) : cmpL (s.drop i) (t.drop i) = if aW s[i] t[i] ≠ 0 then aW s[i] t[i] else cmpL (s.drop (i + 1)) (t.drop (i + 1)) := by
 rw [List.drop_eq_getElem_cons hs, List.drop_eq_getElem_cons ht, cmpL]
def seqGo : List Rx -> List Rx -> Option (List Rx)
 |[], out => some out
 |r :: rs, out => if r.kind = 0 then none else if r.kind = 3 then seqGo rs (out ++ r.kids) else if r.kind = 1 then seqGo rs out else seqGo rs (out ++ [r])
def seqEnd : List Rx -> Rx
 |[] => .mk 1 [] []
 |[x] => x
 |out => .mk 3 [] out
def seqP (l : List Rx) : Rx := match seqGo l [] with
 |none => .mk 0 [] []
 |some out => seqEnd out
theorem GY {l out : List Rx} {i : Nat} (hi : i < l.length) : seqGo (l.drop i) out = if l[i].kind = 0 then none else if l[i].kind = 3 then seqGo (l.drop (i + 1)) (out ++ l[i].kids) else if l[i].kind = 1 then seqGo (l.drop (i + 1)) out else seqGo (l.drop (i + 1)) (out ++ [l[i]]) := by
 rw [List.drop_eq_getElem_cons hi, seqGo]
theorem iF : ∀ l : List Rx, (l.length : Int) <= ah l
 |[] => by rw [ah]; simp
 |r :: rs => by rw [ah, List.length_cons]; have := iF rs; have := cO r; omega
theorem ru (r : Rx) : (r.kids.length : Int) < av r := by rw [dA]; have := iF r.kids; omega
end Rgx
namespace Rgx
mutual
def eY (w : World) : Rx -> Value -> Value -> Prop
 |.mk k s ks, v1, v2 => (bI k /\ ∀ x ∈ s, bI x) /\ (∃ A n c, v1 = .slice A n c /\ n = s.length /\ n <= c /\ c <= maxLen /\ Rd w A (iv s)) /\ ∃ B m d, v2 = .slice B m d /\ m = ks.length /\ m <= d /\ d <= maxLen /\ bN w ks B 0
def bN (w : World) : List Rx -> Option Addr -> Nat -> Prop
 |[], _, _ => True
 |r :: rs, B, i => (∃ b o v1 v2, B = some ⟨b, o, none⟩ /\ w.cell? ⟨b, o + i * 3, none⟩ = some (.int .i64 r.kind) /\ w.cell? ⟨b, o + i * 3 + 1, none⟩ = some v1 /\ w.cell? ⟨b, o + i * 3 + 2, none⟩ = some v2 /\ eY w r v1 v2) /\ bN w rs B (i + 1)
end
theorem eY.iff (w : World) (r : Rx) (v1 v2 : Value) : eY w r v1 v2 ↔ (bI r.kind /\ ∀ x ∈ r.syms, bI x) /\ (∃ A n c, v1 = .slice A n c /\ n = r.syms.length /\ n <= c /\ c <= maxLen /\ Rd w A (iv r.syms)) /\ ∃ B m d, v2 = .slice B m d /\ m = r.kids.length /\ m <= d /\ d <= maxLen /\ bN w r.kids B 0 := by
 cases r with
 |mk k s ks => rw [eY]; rfl
theorem bN.get {w : World} {B : Option Addr} : ∀ {ks : List Rx} {j : Nat}, bN w ks B j -> ∀ i (h : i < ks.length), ∃ b o v1 v2, B = some ⟨b, o, none⟩ /\ w.cell? ⟨b, o + (j + i) * 3, none⟩ = some (.int .i64 ks[i].kind) /\ w.cell? ⟨b, o + (j + i) * 3 + 1, none⟩ = some v1 /\ w.cell? ⟨b, o + (j + i) * 3 + 2, none⟩ = some v2 /\ eY w ks[i] v1 v2
 |[], j, _, i, h => absurd h (by simp)
 |r :: rs, j, hk, i, h => by
  rw [bN] at hk
  cases i with
  |zero => exact hk.1
  |succ i =>
   have h2 := bN.get hk.2 i (by simpa using h);have e : j + 1 + i = j + (i + 1) := by omega
   rw [e] at h2;exact h2
mutual
theorem eY.below {w w' : World} (hb : Below w.heap.size w w') : ∀ (r : Rx) {v1 v2 : Value}, eY w r v1 v2 -> eY w' r v1 v2
 |.mk k s ks, v1, v2, h => by
  rw [eY] at h ⊢
  obtain ⟨h0, ⟨A, n, c, e1, e2, e3, e4, e5⟩, B, m, d, f1, f2, f3, f4, f5⟩ := h
  exact ⟨h0, ⟨A, n, c, e1, e2, e3, e4, e5.below hb⟩, B, m, d, f1, f2, f3, f4, bN.below hb ks f5⟩
theorem bN.below {w w' : World} (hb : Below w.heap.size w w') : ∀ (ks : List Rx) {B : Option Addr} {j : Nat}, bN w ks B j -> bN w' ks B j
 |[], _, _, _ => by rw [bN]; trivial
 |r :: rs, B, j, h => by
  rw [bN] at h ⊢
  obtain ⟨⟨b, o, v1, v2, e1, e2, e3, e4, e5⟩, h2⟩ := h
  exact ⟨⟨b, o, v1, v2, e1, (hb.cell (p := ⟨b, _, none⟩) (World.block_lt_of_cell? w _ e2)).trans e2, (hb.cell (p := ⟨b, _, none⟩) (World.block_lt_of_cell? w _ e3)).trans e3, (hb.cell (p := ⟨b, _, none⟩) (World.block_lt_of_cell? w _ e4)).trans e4, eY.below hb r e5⟩, bN.below hb rs h2⟩
end
def jl (w : World) (v : Value) (r : Rx) : Prop := ∃ v1 v2, v = .agg #[.int .i64 r.kind, v1, v2] /\ eY w r v1 v2
structure aC (w : World) (r : Rx) (A : Option Addr) (n c : Nat) (B : Option Addr) (m d : Nat) : Prop where
 kin : bI r.kind
 sin : ∀ x ∈ r.syms, bI x
 nlen : n = r.syms.length
 ncap : n <= c
 cmax : c <= 9223372036854775807
 syms : Rd w A (iv r.syms)
 mlen : m = r.kids.length
 mcap : m <= d
 dmax : d <= 9223372036854775807
 kids : bN w r.kids B 0
theorem jl.op {w : World} {v : Value} {r : Rx} (h : jl w v r) : ∃ A n c B m d, v = .agg #[.int .i64 r.kind, .slice A n c, .slice B m d] /\ aC w r A n c B m d := by
 obtain ⟨v1, v2, e, h⟩ := h;obtain ⟨⟨h0, h1⟩, ⟨A, n, c, rfl, e2, e3, e4, e5⟩, B, m, d, rfl, f2, f3, f4, f5⟩ := (eY.iff w r v1 v2).1 h;exact ⟨A, n, c, B, m, d, e, h0, h1, e2, e3, by unfold maxLen at e4; exact e4, e5, f2, f3, by unfold maxLen at f4; exact f4, f5⟩
theorem aC.v {w : World} {r : Rx} {A : Option Addr} {n c : Nat} {B : Option Addr} {m d : Nat} (h : aC w r A n c B m d) : jl w (.agg #[.int .i64 r.kind, .slice A n c, .slice B m d]) r :=
 ⟨_, _, rfl, (eY.iff w r _ _).2 ⟨⟨h.kin, h.sin⟩, ⟨A, n, c, rfl, h.nlen, h.ncap, by unfold maxLen; exact h.cmax, h.syms⟩, B, m, d, rfl, h.mlen, h.mcap, by unfold maxLen; exact h.dmax, h.kids⟩⟩
theorem aC.below {w w' : World} {r : Rx} {A : Option Addr} {n c : Nat} {B : Option Addr} {m d : Nat} (h : aC w r A n c B m d) (hb : Below w.heap.size w w') : aC w' r A n c B m d :=
 ⟨h.kin, h.sin, h.nlen, h.ncap, h.cmax, h.syms.below hb, h.mlen, h.mcap, h.dmax, bN.below hb _ h.kids⟩
theorem aC.place {w : World} {r : Rx} {A : Option Addr} {n c : Nat} {B : Option Addr} {m d : Nat} (h : aC w r A n c B m d) : ∃ b o, (m = 0 \/ B = some ⟨b, o, none⟩) := by
 by_cases h0 : m = 0
 ·exact ⟨0, 0, .inl h0⟩
 ·obtain ⟨b, o, _, _, e, _⟩ := h.kids.get 0 (by have := h.mlen; omega);exact ⟨b, o, .inr e⟩
theorem aC.kid {w : World} {r : Rx} {A : Option Addr} {n c : Nat} {b o m d : Nat} (h : aC w r A n c (some ⟨b, o, none⟩) m d) {i : Nat} (hi : i < m) : ∃ A' n' c' B' m' d', w.rangeAt b (o + i * 3) [.int .i64 (dL r i).kind, .slice A' n' c', .slice B' m' d'] /\ aC w (dL r i) A' n' c' B' m' d' := by
 have hl : i < r.kids.length := by rw [<- h.mlen]; exact hi
 obtain ⟨b', o', v1, v2, e, h1, h2, h3, h4⟩ := h.kids.get i hl;obtain ⟨rfl, rfl⟩ : b = b' /\ o = o' := by simpa using e
 rw [Nat.zero_add] at h1 h2 h3;have ek : dL r i = r.kids[i] := by unfold dL; simp [List.getD, hl]
 obtain ⟨A', n', c', B', m', d', e2, hop⟩ := jl.op (show jl w (.agg #[.int .i64 (dL r i).kind, v1, v2]) (dL r i) from ⟨v1, v2, rfl, by rw [ek]; exact h4⟩);simp only [Value.agg.injEq, Array.mk.injEq, List.cons.injEq, and_true, true_and] at e2;obtain ⟨rfl, rfl⟩ := e2;refine ⟨A', n', c', B', m', d', fun j v hv => ?_, hop⟩
 match j, hv with
 |0, hv => rw [<- ek] at h1; simpa using (by simpa using hv : Value.int IntKind.i64 (dL r i).kind = v) ▸ h1
 |1, hv => exact (by simpa using hv : Value.slice A' n' c' = v) ▸ h2
 |2, hv => exact (by simpa using hv : Value.slice B' m' d' = v) ▸ h3
end Rgx
def aI (w : World) (b : Bool) (e : Ending) (w' : World) : Prop := e = .returned (.bool b) /\ Below w.heap.size w w'
theorem iJ {t : B} (ht : t.length <= maxLen) {p : Bool} (hp : plain t = p) : Hid (∀ W, Calls Tryz.prog 137 #[.string (tb t)] W fun e w' => e = .returned (.bool p) /\ w' = W) := Lh fun W => (Fp t ht W).mono fun e w' h => by rw [hp] at h; exact ⟨h.1, h.2.symm⟩
theorem ja (A : Option Addr) (n c : Nat) (x : Int) {p : Bool} (h : decide (0 <= x /\ x < n) = p) : Hid (∀ W, Calls Tryz.prog 138 #[.slice A n c, .int .i64 x] W fun e w' => e = .returned (.bool p) /\ w' = W) := Lh fun W => (FU A n c x W p h.symm).mono fun e w' h => ⟨h.1, h.2.symm⟩
theorem aN {w w' : World} {b : Bool} {e : Ending} (h : aI w b e w') : e = .returned (.bool b) /\ Below w.heap.size w w' := h
theorem FN (t : B) (bs mk cs wd : Int) (n c b o k : Nat) (hk : k < n) (hc : n <= c) (hm : c <= maxLen) (ht : t.length <= maxLen) (hp : plain t = false) (w : World) (hr : w.rangeAt b (o + k * 5) (lc ⟨t, bs, mk, cs, wd⟩)) :
  Calls Tryz.prog 113 #[.slice (some ⟨b, o, none⟩) n c, .int .i64 (k : Int)] w (aI w false) := by
 have HQ := iJ ht hp;have HX := Lh hr;clear hr hp;go_enter Tryz.func113, Tryz.ntmps113
 go_wp2_with (refine gX rfl (.tmp 8) rfl b (o + k * 5) rfl ⟨t, bs, mk, cs, wd⟩ HX.out ?_)
 go_quiet ((go_at_call 137; exact Calls.quiet_of_same (HQ.out _)));go_wp2_with fail;go_ret;exact ⟨rfl, below_drewN (ag _ _) _⟩
theorem zx (t : B) (bs mk cs wd : Int) (n c b o k : Nat) (hk : k < n) (hc : n <= c) (hm : c <= maxLen) (ht : t.length <= maxLen) (hp : plain t = true) (h0 : ¬ (0 <= bs /\ bs < n)) (w : World) (hr : w.rangeAt b (o + k * 5) (lc ⟨t, bs, mk, cs, wd⟩)) :
  Calls Tryz.prog 113 #[.slice (some ⟨b, o, none⟩) n c, .int .i64 (k : Int)] w (aI w false) := by
 have HQ := iJ ht hp;have HH := ja (some ⟨b, o, none⟩) n c bs (dF h0);have HX := Lh hr;clear hr hp h0;go_enter Tryz.func113, Tryz.ntmps113
 go_wp2_with (refine gX rfl (.tmp 8) rfl b (o + k * 5) rfl ⟨t, bs, mk, cs, wd⟩ HX.out ?_)
 go_quiet ((first | (go_at_call 137; exact Calls.quiet_of_same (HQ.out _)) | (go_at_call 138; exact Calls.quiet_of_same (HH.out _))));go_wp2_with fail;go_ret;exact ⟨rfl, below_drewN (ag _ _) _⟩
theorem zW (t : B) (q : Nat) (mk cs wd : Int) (n c b o k : Nat) (hk : k < n) (hc : n <= c) (hm : c <= maxLen) (ht : t.length <= maxLen) (hp : plain t = true) (hq : q < n) (x : Int) (hx : x ≠ q) (w : World) (hr : w.rangeAt b (o + k * 5) (lc ⟨t, (q : Int), mk, cs, wd⟩)) (hcx : w.cell? ⟨b, o + q * 5 + 1, none⟩ = some (.int .i64 x)) :
  Calls Tryz.prog 113 #[.slice (some ⟨b, o, none⟩) n c, .int .i64 (k : Int)] w (aI w false) := by
 have h0 : (0 : Int) <= q /\ (q : Int) < n := by omega
 have HQ := iJ ht hp;have HH := ja (some ⟨b, o, none⟩) n c (q : Int) (dT h0);have HX := Lh hr;have hne : (x != (q : Int)) = true := bne_iff_ne.2 hx;have hbl := World.block_lt_of_cell? w _ hcx;have hcy := (World.cell?_alloc_lt w (.cells #[.string (tb t), .int .i64 (q : Int), .int .i64 mk, .int .i64 cs, .int .i64 wd] 90) ⟨b, o + q * 5 + 1, none⟩ hbl).trans hcx;clear hr hp h0 hx hcx hbl;go_enter Tryz.func113, Tryz.ntmps113
 go_wp2_with (refine gX rfl (.tmp 8) rfl b (o + k * 5) rfl ⟨t, (q : Int), mk, cs, wd⟩ HX.out ?_)
 go_quiet ((first | (go_at_call 137; exact Calls.quiet_of_same (HQ.out _)) | (go_at_call 138; exact Calls.quiet_of_same (HH.out _))));go_wp2_with fail;go_ret;exact ⟨rfl, below_drewN (ag _ _) _⟩
theorem Ed (t : B) (q : Nat) (mk cs wd : Int) (n c b o k : Nat) (hk : k < n) (hc : n <= c) (hm : c <= maxLen) (ht : t.length <= maxLen) (hp : plain t = true) (hq : q < n) (g0 : mk < 0) (w : World) (hr : w.rangeAt b (o + k * 5) (lc ⟨t, (q : Int), mk, cs, wd⟩)) (hcx : w.cell? ⟨b, o + q * 5 + 1, none⟩ = some (.int .i64 (q : Int))) :
  Calls Tryz.prog 113 #[.slice (some ⟨b, o, none⟩) n c, .int .i64 (k : Int)] w (aI w false) := by
 have h0 : (0 : Int) <= q /\ (q : Int) < n := by omega
 have HQ := iJ ht hp;have HH := ja (some ⟨b, o, none⟩) n c (q : Int) (dT h0);have HX := Lh hr;have hbl := World.block_lt_of_cell? w _ hcx;have hcy := (World.cell?_alloc_lt w (.cells #[.string (tb t), .int .i64 (q : Int), .int .i64 mk, .int .i64 cs, .int .i64 wd] 90) ⟨b, o + q * 5 + 1, none⟩ hbl).trans hcx;clear hr hp h0 hcx hbl;go_enter Tryz.func113, Tryz.ntmps113
 go_wp2_with (refine gX rfl (.tmp 8) rfl b (o + k * 5) rfl ⟨t, (q : Int), mk, cs, wd⟩ HX.out ?_)
 go_quiet ((first | (go_at_call 137; exact Calls.quiet_of_same (HQ.out _)) | (go_at_call 138; exact Calls.quiet_of_same (HH.out _))));go_wp2_with fail;go_ret;exact ⟨rfl, below_drewN (ag _ _) _⟩
theorem EC (t : B) (q : Nat) (mk cs wd : Int) (n c b o k : Nat) (hk : k < n) (hc : n <= c) (hm : c <= maxLen) (ht : t.length <= maxLen) (hp : plain t = true) (hq : q < n) (g0 : 0 <= mk) (g1 : 15 < mk) (w : World) (hr : w.rangeAt b (o + k * 5) (lc ⟨t, (q : Int), mk, cs, wd⟩)) (hcx : w.cell? ⟨b, o + q * 5 + 1, none⟩ = some (.int .i64 (q : Int))) :
  Calls Tryz.prog 113 #[.slice (some ⟨b, o, none⟩) n c, .int .i64 (k : Int)] w (aI w false) := by
 have h0 : (0 : Int) <= q /\ (q : Int) < n := by omega
 have HQ := iJ ht hp;have HH := ja (some ⟨b, o, none⟩) n c (q : Int) (dT h0);have HX := Lh hr;have hbl := World.block_lt_of_cell? w _ hcx;have hcy := (World.cell?_alloc_lt w (.cells #[.string (tb t), .int .i64 (q : Int), .int .i64 mk, .int .i64 cs, .int .i64 wd] 90) ⟨b, o + q * 5 + 1, none⟩ hbl).trans hcx;clear hr hp h0 hcx hbl;have d0 : decide (mk < 0) = false := dF (by omega);go_enter Tryz.func113, Tryz.ntmps113
 go_wp2_with (refine gX rfl (.tmp 8) rfl b (o + k * 5) rfl ⟨t, (q : Int), mk, cs, wd⟩ HX.out ?_)
 go_quiet ((first | (go_at_call 137; exact Calls.quiet_of_same (HQ.out _)) | (go_at_call 138; exact Calls.quiet_of_same (HH.out _))));go_wp2_with fail;go_ret;exact ⟨rfl, below_drewN (ag _ _) _⟩
theorem Gi (t : B) (q : Nat) (mk cs wd : Int) (n c b o k : Nat) (hk : k < n) (hc : n <= c) (hm : c <= maxLen) (ht : t.length <= maxLen) (hp : plain t = true) (hq : q < n) (g0 : 0 <= mk) (g1 : mk <= 15) (g2 : cs < 0) (w : World) (hr : w.rangeAt b (o + k * 5) (lc ⟨t, (q : Int), mk, cs, wd⟩)) (hcx : w.cell? ⟨b, o + q * 5 + 1, none⟩ = some (.int .i64 (q : Int))) :
  Calls Tryz.prog 113 #[.slice (some ⟨b, o, none⟩) n c, .int .i64 (k : Int)] w (aI w false) := by
 have h0 : (0 : Int) <= q /\ (q : Int) < n := by omega
 have HQ := iJ ht hp;have HH := ja (some ⟨b, o, none⟩) n c (q : Int) (dT h0);have HX := Lh hr;have hbl := World.block_lt_of_cell? w _ hcx;have hcy := (World.cell?_alloc_lt w (.cells #[.string (tb t), .int .i64 (q : Int), .int .i64 mk, .int .i64 cs, .int .i64 wd] 90) ⟨b, o + q * 5 + 1, none⟩ hbl).trans hcx;clear hr hp h0 hcx hbl;have d0 : decide (mk < 0) = false := dF (by omega);have d1 : decide (15 < mk) = false := dF (by omega);go_enter Tryz.func113, Tryz.ntmps113
 go_wp2_with (refine gX rfl (.tmp 8) rfl b (o + k * 5) rfl ⟨t, (q : Int), mk, cs, wd⟩ HX.out ?_)
 go_quiet ((first | (go_at_call 137; exact Calls.quiet_of_same (HQ.out _)) | (go_at_call 138; exact Calls.quiet_of_same (HH.out _))));go_wp2_with fail;go_ret;exact ⟨rfl, below_drewN (ag _ _) _⟩
theorem Cz (t : B) (q : Nat) (mk cs wd : Int) (n c b o k : Nat) (hk : k < n) (hc : n <= c) (hm : c <= maxLen) (ht : t.length <= maxLen) (hp : plain t = true) (hq : q < n) (g0 : 0 <= mk) (g1 : mk <= 15) (g2 : 0 <= cs) (g3 : 1 < cs) (w : World) (hr : w.rangeAt b (o + k * 5) (lc ⟨t, (q : Int), mk, cs, wd⟩)) (hcx : w.cell? ⟨b, o + q * 5 + 1, none⟩ = some (.int .i64 (q : Int))) :
  Calls Tryz.prog 113 #[.slice (some ⟨b, o, none⟩) n c, .int .i64 (k : Int)] w (aI w false) := by
 have h0 : (0 : Int) <= q /\ (q : Int) < n := by omega
 have HQ := iJ ht hp;have HH := ja (some ⟨b, o, none⟩) n c (q : Int) (dT h0);have HX := Lh hr;have hbl := World.block_lt_of_cell? w _ hcx;have hcy := (World.cell?_alloc_lt w (.cells #[.string (tb t), .int .i64 (q : Int), .int .i64 mk, .int .i64 cs, .int .i64 wd] 90) ⟨b, o + q * 5 + 1, none⟩ hbl).trans hcx;clear hr hp h0 hcx hbl;have d0 : decide (mk < 0) = false := dF (by omega);have d1 : decide (15 < mk) = false := dF (by omega);have d2 : decide (cs < 0) = false := dF (by omega);go_enter Tryz.func113, Tryz.ntmps113
 go_wp2_with (refine gX rfl (.tmp 8) rfl b (o + k * 5) rfl ⟨t, (q : Int), mk, cs, wd⟩ HX.out ?_)
 go_quiet ((first | (go_at_call 137; exact Calls.quiet_of_same (HQ.out _)) | (go_at_call 138; exact Calls.quiet_of_same (HH.out _))));go_wp2_with fail;go_ret;exact ⟨rfl, below_drewN (ag _ _) _⟩
theorem CZ (t : B) (q : Nat) (mk cs wd : Int) (n c b o k : Nat) (hk : k < n) (hc : n <= c) (hm : c <= maxLen) (ht : t.length <= maxLen) (hp : plain t = true) (hq : q < n) (g0 : 0 <= mk) (g1 : mk <= 15) (g2 : 0 <= cs) (g3 : cs <= 1) (g4 : wd < 1) (w : World) (hr : w.rangeAt b (o + k * 5) (lc ⟨t, (q : Int), mk, cs, wd⟩)) (hcx : w.cell? ⟨b, o + q * 5 + 1, none⟩ = some (.int .i64 (q : Int))) :
  Calls Tryz.prog 113 #[.slice (some ⟨b, o, none⟩) n c, .int .i64 (k : Int)] w (aI w false) := by
 have h0 : (0 : Int) <= q /\ (q : Int) < n := by omega
 have HQ := iJ ht hp;have HH := ja (some ⟨b, o, none⟩) n c (q : Int) (dT h0);have HX := Lh hr;have hbl := World.block_lt_of_cell? w _ hcx;have hcy := (World.cell?_alloc_lt w (.cells #[.string (tb t), .int .i64 (q : Int), .int .i64 mk, .int .i64 cs, .int .i64 wd] 90) ⟨b, o + q * 5 + 1, none⟩ hbl).trans hcx;clear hr hp h0 hcx hbl;have d0 : decide (mk < 0) = false := dF (by omega);have d1 : decide (15 < mk) = false := dF (by omega);have d2 : decide (cs < 0) = false := dF (by omega);have d3 : decide (1 < cs) = false := dF (by omega);go_enter Tryz.func113, Tryz.ntmps113
 go_wp2_with (refine gX rfl (.tmp 8) rfl b (o + k * 5) rfl ⟨t, (q : Int), mk, cs, wd⟩ HX.out ?_)
 go_quiet ((first | (go_at_call 137; exact Calls.quiet_of_same (HQ.out _)) | (go_at_call 138; exact Calls.quiet_of_same (HH.out _))));go_wp2_with fail;go_ret;exact ⟨rfl, below_drewN (ag _ _) _⟩
theorem BO (t : B) (q : Nat) (mk cs wd : Int) (n c b o k : Nat) (hk : k < n) (hc : n <= c) (hm : c <= maxLen) (ht : t.length <= maxLen) (hp : plain t = true) (hq : q < n) (g0 : 0 <= mk) (g1 : mk <= 15) (g2 : 0 <= cs) (g3 : cs <= 1) (g4 : 1 <= wd) (g5 : 1000 < wd) (w : World) (hr : w.rangeAt b (o + k * 5) (lc ⟨t, (q : Int), mk, cs, wd⟩)) (hcx : w.cell? ⟨b, o + q * 5 + 1, none⟩ = some (.int .i64 (q : Int))) :
  Calls Tryz.prog 113 #[.slice (some ⟨b, o, none⟩) n c, .int .i64 (k : Int)] w (aI w false) := by
 have h0 : (0 : Int) <= q /\ (q : Int) < n := by omega
 have HQ := iJ ht hp;have HH := ja (some ⟨b, o, none⟩) n c (q : Int) (dT h0);have HX := Lh hr;have hbl := World.block_lt_of_cell? w _ hcx;have hcy := (World.cell?_alloc_lt w (.cells #[.string (tb t), .int .i64 (q : Int), .int .i64 mk, .int .i64 cs, .int .i64 wd] 90) ⟨b, o + q * 5 + 1, none⟩ hbl).trans hcx;clear hr hp h0 hcx hbl;have d0 : decide (mk < 0) = false := dF (by omega);have d1 : decide (15 < mk) = false := dF (by omega);have d2 : decide (cs < 0) = false := dF (by omega);have d3 : decide (1 < cs) = false := dF (by omega);have d4 : decide (wd < 1) = false := dF (by omega);go_enter Tryz.func113, Tryz.ntmps113
 go_wp2_with (refine gX rfl (.tmp 8) rfl b (o + k * 5) rfl ⟨t, (q : Int), mk, cs, wd⟩ HX.out ?_)
 go_quiet ((first | (go_at_call 137; exact Calls.quiet_of_same (HQ.out _)) | (go_at_call 138; exact Calls.quiet_of_same (HH.out _))));go_wp2_with fail;go_ret;exact ⟨rfl, below_drewN (ag _ _) _⟩
theorem FR (t : B) (q : Nat) (mk cs wd : Int) (n c b o k : Nat) (hk : k < n) (hc : n <= c) (hm : c <= maxLen) (ht : t.length <= maxLen) (hp : plain t = true) (hq : q < n) (g0 : 0 <= mk) (g1 : mk <= 15) (g2 : 0 <= cs) (g3 : cs <= 1) (g4 : 1 <= wd) (g5 : wd <= 1000) (hqk : q ≠ k) (w : World) (hr : w.rangeAt b (o + k * 5) (lc ⟨t, (q : Int), mk, cs, wd⟩)) (hcx : w.cell? ⟨b, o + q * 5 + 1, none⟩ = some (.int .i64 (q : Int))) :
  Calls Tryz.prog 113 #[.slice (some ⟨b, o, none⟩) n c, .int .i64 (k : Int)] w (aI w true) := by
 have h0 : (0 : Int) <= q /\ (q : Int) < n := by omega
 have HQ := iJ ht hp;have HH := ja (some ⟨b, o, none⟩) n c (q : Int) (dT h0);have HX := Lh hr;have hbl := World.block_lt_of_cell? w _ hcx;have hcy := (World.cell?_alloc_lt w (.cells #[.string (tb t), .int .i64 (q : Int), .int .i64 mk, .int .i64 cs, .int .i64 wd] 90) ⟨b, o + q * 5 + 1, none⟩ hbl).trans hcx;clear hr hp h0 hcx hbl;have d0 : decide (mk < 0) = false := dF (by omega);have d1 : decide (15 < mk) = false := dF (by omega);have d2 : decide (cs < 0) = false := dF (by omega);have d3 : decide (1 < cs) = false := dF (by omega);have d4 : decide (wd < 1) = false := dF (by omega);have d5 : decide (1000 < wd) = false := dF (by omega);have e1 : ((q : Int) != (k : Int)) = true := bne_iff_ne.2 (by omega);go_enter Tryz.func113, Tryz.ntmps113
 go_wp2_with (refine gX rfl (.tmp 8) rfl b (o + k * 5) rfl ⟨t, (q : Int), mk, cs, wd⟩ HX.out ?_)
 go_quiet ((first | (go_at_call 137; exact Calls.quiet_of_same (HQ.out _)) | (go_at_call 138; exact Calls.quiet_of_same (HH.out _))));go_wp2_with fail;go_ret;exact ⟨rfl, below_drewN (ag _ _) _⟩
theorem EB (t : B) (q : Nat) (mk cs wd : Int) (n c b o k : Nat) (hk : k < n) (hc : n <= c) (hm : c <= maxLen) (ht : t.length <= maxLen) (hp : plain t = true) (hq : q < n) (g0 : 0 <= mk) (g1 : mk <= 15) (g2 : 0 <= cs) (g3 : cs <= 1) (g4 : 1 <= wd) (g5 : wd <= 1000) (hqk : q = k) (hm0 : mk = 0) (hc0 : cs = 0) (w : World) (hr : w.rangeAt b (o + k * 5) (lc ⟨t, (q : Int), mk, cs, wd⟩)) (hcx : w.cell? ⟨b, o + q * 5 + 1, none⟩ = some (.int .i64 (q : Int))) :
  Calls Tryz.prog 113 #[.slice (some ⟨b, o, none⟩) n c, .int .i64 (k : Int)] w (aI w true) := by
 have h0 : (0 : Int) <= q /\ (q : Int) < n := by omega
 have HQ := iJ ht hp;have HH := ja (some ⟨b, o, none⟩) n c (q : Int) (dT h0);have HX := Lh hr;have hbl := World.block_lt_of_cell? w _ hcx;have hcy := (World.cell?_alloc_lt w (.cells #[.string (tb t), .int .i64 (q : Int), .int .i64 mk, .int .i64 cs, .int .i64 wd] 90) ⟨b, o + q * 5 + 1, none⟩ hbl).trans hcx;clear hr hp h0 hcx hbl;subst hqk hm0 hc0;have d4 : decide (wd < 1) = false := dF (by omega);have d5 : decide (1000 < wd) = false := dF (by omega);go_enter Tryz.func113, Tryz.ntmps113
 go_wp2_with (refine gX rfl (.tmp 8) rfl b (o + q * 5) rfl ⟨t, (q : Int), 0, 0, wd⟩ HX.out ?_)
 go_quiet ((first | (go_at_call 137; exact Calls.quiet_of_same (HQ.out _)) | (go_at_call 138; exact Calls.quiet_of_same (HH.out _))));go_wp2_with fail;go_ret;exact ⟨rfl, below_drewN (ag _ _) _⟩
theorem zQ (t : B) (q : Nat) (mk cs wd : Int) (n c b o k : Nat) (hk : k < n) (hc : n <= c) (hm : c <= maxLen) (ht : t.length <= maxLen) (hp : plain t = true) (hq : q < n) (g0 : 0 <= mk) (g1 : mk <= 15) (g2 : 0 <= cs) (g3 : cs <= 1) (g4 : 1 <= wd) (g5 : wd <= 1000) (hqk : q = k) (hm0 : mk ≠ 0) (w : World) (hr : w.rangeAt b (o + k * 5) (lc ⟨t, (q : Int), mk, cs, wd⟩)) (hcx : w.cell? ⟨b, o + q * 5 + 1, none⟩ = some (.int .i64 (q : Int))) :
  Calls Tryz.prog 113 #[.slice (some ⟨b, o, none⟩) n c, .int .i64 (k : Int)] w (aI w false) := by
 have h0 : (0 : Int) <= q /\ (q : Int) < n := by omega
 have HQ := iJ ht hp;have HH := ja (some ⟨b, o, none⟩) n c (q : Int) (dT h0);have HX := Lh hr;have hbl := World.block_lt_of_cell? w _ hcx;have hcy := (World.cell?_alloc_lt w (.cells #[.string (tb t), .int .i64 (q : Int), .int .i64 mk, .int .i64 cs, .int .i64 wd] 90) ⟨b, o + q * 5 + 1, none⟩ hbl).trans hcx;clear hr hp h0 hcx hbl;subst hqk;have d0 : decide (mk < 0) = false := dF (by omega);have d1 : decide (15 < mk) = false := dF (by omega);have d2 : decide (cs < 0) = false := dF (by omega);have d3 : decide (1 < cs) = false := dF (by omega);have d4 : decide (wd < 1) = false := dF (by omega);have d5 : decide (1000 < wd) = false := dF (by omega);have e2 : (mk == 0) = false := bF hm0;clear hm0;go_enter Tryz.func113, Tryz.ntmps113
 go_wp2_with (refine gX rfl (.tmp 8) rfl b (o + q * 5) rfl ⟨t, (q : Int), mk, cs, wd⟩ HX.out ?_)
 go_quiet ((first | (go_at_call 137; exact Calls.quiet_of_same (HQ.out _)) | (go_at_call 138; exact Calls.quiet_of_same (HH.out _))));go_wp2_with fail;go_ret;exact ⟨rfl, below_drewN (ag _ _) _⟩
theorem Ab (t : B) (q : Nat) (mk cs wd : Int) (n c b o k : Nat) (hk : k < n) (hc : n <= c) (hm : c <= maxLen) (ht : t.length <= maxLen) (hp : plain t = true) (hq : q < n) (g0 : 0 <= mk) (g1 : mk <= 15) (g2 : 0 <= cs) (g3 : cs <= 1) (g4 : 1 <= wd) (g5 : wd <= 1000) (hqk : q = k) (hm0 : mk = 0) (hc0 : cs ≠ 0) (w : World) (hr : w.rangeAt b (o + k * 5) (lc ⟨t, (q : Int), mk, cs, wd⟩)) (hcx : w.cell? ⟨b, o + q * 5 + 1, none⟩ = some (.int .i64 (q : Int))) :
  Calls Tryz.prog 113 #[.slice (some ⟨b, o, none⟩) n c, .int .i64 (k : Int)] w (aI w false) := by
 have h0 : (0 : Int) <= q /\ (q : Int) < n := by omega
 have HQ := iJ ht hp;have HH := ja (some ⟨b, o, none⟩) n c (q : Int) (dT h0);have HX := Lh hr;have hbl := World.block_lt_of_cell? w _ hcx;have hcy := (World.cell?_alloc_lt w (.cells #[.string (tb t), .int .i64 (q : Int), .int .i64 mk, .int .i64 cs, .int .i64 wd] 90) ⟨b, o + q * 5 + 1, none⟩ hbl).trans hcx;clear hr hp h0 hcx hbl;subst hqk hm0;have d2 : decide (cs < 0) = false := dF (by omega);have d3 : decide (1 < cs) = false := dF (by omega);have d4 : decide (wd < 1) = false := dF (by omega);have d5 : decide (1000 < wd) = false := dF (by omega);have e2 : (cs == 0) = false := bF hc0;clear hc0;go_enter Tryz.func113, Tryz.ntmps113
 go_wp2_with (refine gX rfl (.tmp 8) rfl b (o + q * 5) rfl ⟨t, (q : Int), 0, cs, wd⟩ HX.out ?_)
 go_quiet ((first | (go_at_call 137; exact Calls.quiet_of_same (HQ.out _)) | (go_at_call 138; exact Calls.quiet_of_same (HH.out _))));go_wp2_with fail;go_ret;exact ⟨rfl, below_drewN (ag _ _) _⟩
theorem jg {L : List Lt} {n : Nat} {l : Lt} (h : ¬ (plain l.text = true /\ (0 <= l.base /\ l.base < L.length) /\ (L.getD l.base.toNat z).base = l.base /\ (0 <= l.mark /\ l.mark <= 15) /\ (0 <= l.cas /\ l.cas <= 1) /\ (1 <= l.width /\ l.width <= 1000) /\ (l.base ≠ n \/ (l.mark = 0 /\ l.cas = 0)))) : lok L n l = false := by
 rw [Bool.eq_false_iff];exact fun e => h ((sW _ _ _).1 e)
theorem DT (L : List Lt) (n c b o k : Nat) (hn : n = L.length) (hk : k < n) (hc : n <= c) (hm : c <= maxLen) (hs : ∀ l ∈ L, l.text.length <= maxLen) (w : World) (hr : RL w b o L) :
  Calls Tryz.prog 113 #[.slice (some ⟨b, o, none⟩) n c, .int .i64 (k : Int)] w (aI w (ko L k)) := by
 obtain ⟨l, hl⟩ : ∃ l, l = L.getD k z := ⟨_, rfl⟩;have hX := hr.range (by omega) hl;have hT : l.text.length <= maxLen := by rw [hl]; exact hs _ (dG (by omega))
 unfold ko;rw [<- hl];obtain ⟨t, bs, mk, cs, wd⟩ := l
 by_cases hp : plain t = true
 ·by_cases h0 : 0 <= bs /\ bs < n
  ·obtain ⟨q, rfl⟩ : ∃ q : Nat, bs = q := ⟨bs.toNat, by omega⟩;have hq : q < n := by omega
   have hcx := hr.c1 (k := q) (by omega) rfl
   by_cases hx : (L.getD q z).base = q
   ·rw [hx] at hcx
    by_cases g0 : 0 <= mk
    rotate_left
    ·rw [jg (fun h => by obtain ⟨_, _, _, h4, h5, h6, h7⟩ := h; simp only at h4 h5 h6 h7; omega)];exact Ed t q mk cs wd n c b o k hk hc hm hT hp hq (by omega) w hX hcx
    by_cases g1 : mk <= 15
    rotate_left
    ·rw [jg (fun h => by obtain ⟨_, _, _, h4, h5, h6, h7⟩ := h; simp only at h4 h5 h6 h7; omega)];exact EC t q mk cs wd n c b o k hk hc hm hT hp hq g0 (by omega) w hX hcx
    by_cases g2 : 0 <= cs
    rotate_left
    ·rw [jg (fun h => by obtain ⟨_, _, _, h4, h5, h6, h7⟩ := h; simp only at h4 h5 h6 h7; omega)];exact Gi t q mk cs wd n c b o k hk hc hm hT hp hq g0 g1 (by omega) w hX hcx
    by_cases g3 : cs <= 1
    rotate_left
    ·rw [jg (fun h => by obtain ⟨_, _, _, h4, h5, h6, h7⟩ := h; simp only at h4 h5 h6 h7; omega)];exact Cz t q mk cs wd n c b o k hk hc hm hT hp hq g0 g1 g2 (by omega) w hX hcx
    by_cases g4 : 1 <= wd
    rotate_left
    ·rw [jg (fun h => by obtain ⟨_, _, _, h4, h5, h6, h7⟩ := h; simp only at h4 h5 h6 h7; omega)];exact CZ t q mk cs wd n c b o k hk hc hm hT hp hq g0 g1 g2 g3 (by omega) w hX hcx
    by_cases g5 : wd <= 1000
    rotate_left
    ·rw [jg (fun h => by obtain ⟨_, _, _, h4, h5, h6, h7⟩ := h; simp only at h4 h5 h6 h7; omega)];exact BO t q mk cs wd n c b o k hk hc hm hT hp hq g0 g1 g2 g3 g4 (by omega) w hX hcx
    by_cases hqk : q = k
    ·by_cases hm0 : mk = 0
     ·by_cases hc0 : cs = 0
      ·rw [(sW _ _ _).2 ⟨hp, ⟨by simp only; omega, by simp only; omega⟩, by simp only [Int.toNat_natCast]; exact hx, ⟨g0, g1⟩, ⟨g2, g3⟩, ⟨g4, g5⟩, .inr ⟨hm0, hc0⟩⟩];exact EB t q mk cs wd n c b o k hk hc hm hT hp hq g0 g1 g2 g3 g4 g5 hqk hm0 hc0 w hX hcx
      ·rw [jg (fun h => by obtain ⟨_, _, _, h4, h5, h6, h7⟩ := h; simp only at h4 h5 h6 h7; omega)];exact Ab t q mk cs wd n c b o k hk hc hm hT hp hq g0 g1 g2 g3 g4 g5 hqk hm0 hc0 w hX hcx
     ·rw [jg (fun h => by obtain ⟨_, _, _, h4, h5, h6, h7⟩ := h; simp only at h4 h5 h6 h7; omega)];exact zQ t q mk cs wd n c b o k hk hc hm hT hp hq g0 g1 g2 g3 g4 g5 hqk hm0 w hX hcx
    ·rw [(sW _ _ _).2 ⟨hp, ⟨by simp only; omega, by simp only; omega⟩, by simp only [Int.toNat_natCast]; exact hx, ⟨g0, g1⟩, ⟨g2, g3⟩, ⟨g4, g5⟩, .inl (by simp only; omega)⟩];exact FR t q mk cs wd n c b o k hk hc hm hT hp hq g0 g1 g2 g3 g4 g5 hqk w hX hcx
   ·rw [jg (fun h => hx (by have := h.2.2.1; simpa only [Int.toNat_natCast] using this))];exact zW t q mk cs wd n c b o k hk hc hm hT hp hq _ hx w hX hcx
  ·rw [jg (fun h => h0 (by rw [hn]; exact h.2.1))];exact zx t bs mk cs wd n c b o k hk hc hm hT hp h0 w hX
 ·have hp' : plain t = false := by simpa using hp
  rw [jg (fun h => hp h.1)];exact FN t bs mk cs wd n c b o k hk hc hm hT hp' w hX
open Rgx
structure Wo (S : World -> Prop) where
 wo : World
 ok : S wo
theorem iR {P : Program} {id : Nat} {Q : Exit -> Act -> World -> Prop} {a : Act} {w : World} {l : List Oper} (S : World -> Prop) (hm : P.follows .mixedOrders = true) (hB : Region.lexB .any l.toArray = true) (hS : S w.drew)
  (h : wpQuiet P l.toArray (fun w' => ∃ p : Wo S, w' = p.wo) (fun a' => ∀ w', (∃ p : Wo S, w' = p.wo) -> Q .normal a' w') l a) : (Code.region id l.toArray true).wp P Q a w :=
 wp_region_quiet (C := fun w' => ∃ p : Wo S, w' = p.wo) hm hB ⟨⟨w.drew, hS⟩, rfl⟩ (by simpa using h)
theorem lh {P : Program} {S : World -> Prop} {f : FuncId} {args : Array Value} {v : Value} (h : ∀ W, S W -> Calls P f args W fun e w' => e = .returned v /\ S w') (p : Wo S) : Calls P f args p.wo fun e w'' => e = .returned v /\ ∃ q : Wo S, w'' = q.wo :=
 (h p.wo p.ok).mono fun _ _ ⟨he, hs⟩ => ⟨he, ⟨_, hs⟩, rfl⟩
theorem jc : Tryz.prog.follows .mixedOrders = true := by kernel_rfl
def jO (w : World) (n : Int) (e : Ending) (w' : World) : Prop := e = .returned (.int .i64 n) /\ Below w.heap.size w w'
theorem kG {w w' : World} {n : Int} {e : Ending} (h : jO w n e w') : e = .returned (.int .i64 n) /\ Below w.heap.size w w' := h
theorem zY (a b : Int) (w : World) : Calls Tryz.prog 80 #[.int .i64 a, .int .i64 b] w (jO w (aQ a b)) := by
 obtain ⟨R, hR⟩ : ∃ R, R = aQ a b := ⟨_, rfl⟩;rw [<- hR]
 by_cases h1 : a < b
 ·have e : R = -1 := by rw [hR]; unfold aQ; rw [if_pos h1]
  have d1 : decide (a < b) = true := dT h1;clear hR;subst e;go_enter Tryz.func80, Tryz.ntmps80;go_wp2_with fail;go_ret;exact ⟨rfl, Below.refl _ _⟩
 ·have d1 : decide (a < b) = false := dF h1
  by_cases h2 : b < a
  ·have e : R = 1 := by rw [hR]; unfold aQ; rw [if_neg h1, if_pos h2]
   clear hR;subst e;go_enter Tryz.func80, Tryz.ntmps80;go_wp2_with fail;go_ret;exact ⟨rfl, Below.refl _ _⟩
  ·have e : R = 0 := by rw [hR]; unfold aQ; rw [if_neg h1, if_neg h2]
   clear hR;subst e;go_enter Tryz.func80, Tryz.ntmps80;go_wp2_with fail;go_ret;exact ⟨rfl, Below.refl _ _⟩
theorem au : (Tryz.prog.info? 25).map (·.size) = some 3 := by kernel_rfl
theorem aA {w : World} {ops : Array Oper} {rest : List Oper} {o : Oper} {a : Act} {Q : Exit -> Act -> World -> Prop} (hgd : o.guard = none) (x : Operand) (ho : o.op = .load 25 x)
  (g q : Nat) (hx : a.eval x = .pointer (some ⟨g, q, none⟩)) (K : Int) (A B : Option Addr) (n c m d : Nat) (hc : w.rangeAt g q (zV K A n c B m d))
  (h : wpList Tryz.prog ops Q rest (a.put o.dst (.agg #[.int .i64 K, .slice A n c, .slice B m d])) w) : wpList Tryz.prog ops Q (o :: rest) a w :=
 wpList_load_mid hgd 25 x ho g q hx _ _ hc Tryz.underlying25 rfl au h
def bx (w : World) (K : Int) (A : Option Addr) (n c : Nat) (B : Option Addr) (m d : Nat) : World := w.alloc (zC K A n c B m d)
theorem iX {w W : World} {K : Int} {A B : Option Addr} {n c m d : Nat} (hb : Below (w.alloc (zC K A n c B m d)).heap.size (w.alloc (zC K A n c B m d)) W) (j : Nat) (v : Value) (hv : [Value.int .i64 K, .slice A n c, .slice B m d][j]? = some v) : W.cell? ⟨w.heap.size, j, none⟩ = some v := by
 have h := (aa.at w [Value.int .i64 K, .slice A n c, .slice B m d] _ 25 _ rfl rfl);exact (hb.cell (p := ⟨w.heap.size, j, none⟩) h.lt).trans (h.cell hv)
theorem aM {w : World} {g : Nat} {v0 v1 v2 : Value} {T : TypeId} (h : aa w g [v0, v1, v2] T) : w.rangeAt g 0 [v0, v1, v2] := fun j v hv => by rw [Nat.zero_add]; exact h.cell hv
theorem aZ {w w1 : World} {v0 v1 v2 : Value} {T : TypeId} {z : Array Value} (h : aK (w.alloc (.cells z T)) w1 w.heap.size (List.take 0 [Value.int .i64 0, .slice none 0 0, .slice none 0 0] ++ [v0, v1, v2] ++ List.drop (0 + 3) [Value.int .i64 0, .slice none 0 0, .slice none 0 0]) T) : aa w1 w.heap.size [v0, v1, v2] T /\ Below w.heap.size w w1 :=
 ⟨h.1, h.below (ag _ _) (Nat.le_refl _)⟩
namespace Rgx
def lQ (l : List Int) (k : Nat) : Int := if k = 0 then -1 else l.getD (k - 1) 0
theorem ET {l : List Int} {k : Nat} (h : ∀ j, j < k -> jh l j) : jh l k ↔ lQ l k < l.getD k 0 /\ l.getD k 0 < 64 := by
 unfold jh lQ
 by_cases e : k = 0
 ·subst e; rw [if_pos rfl]; omega
 ·rw [if_neg e];have := (h (k - 1) (by omega)).1;omega
theorem Ef (l : List Int) (k : Nat) : lQ l (k + 1) = l.getD k 0 := by unfold lQ; rw [if_neg (by omega), Nat.add_sub_cancel]
end Rgx
theorem xG (l : List Int) (A : Option Addr) (n c : Nat) (hn : n = l.length) (hc : n <= c) (hm : c <= 9223372036854775807) (V : Bool) (hV : V = dI l) (w : World) (hr : Rd w A (iv l)) : Calls Tryz.prog 44 #[.slice A n c] w (aI w V) := by
 have HV : Hid (V = dI l /\ n = l.length) := Lh ⟨hV, hn⟩;have HR := Lh hr;clear hV hn hr;go_enter Tryz.func44, Tryz.ntmps44;go_wp2_with fail
 go_loopg [3, 8] n (fun g s3 s8 wr => ∃ (k : Nat) (z : Int), k + g = n /\ s3 = .int .i64 z /\ s8 = .int .i64 (k : Int) /\ Hid ((∀ j, j < k -> jh l j) /\ z = lQ l k /\ Below w.heap.size w wr))
 case atStart => exact ⟨0, -1, by omega, rfl, rfl, Lh ⟨fun j h => by omega, rfl, Below.refl _ _⟩⟩
 case round =>
  obtain ⟨k, z, hk, rfl, rfl, HI⟩ := hrel
  by_cases hlt : k < n
  ·obtain ⟨g, rfl⟩ : ∃ g, gk = g + 1 := ⟨gk - 1, by omega⟩;have hkl : k < l.length := by rw [<- HV.out.2]; exact hlt
   obtain ⟨b, o, rfl, hil⟩ := mh HR.out (by intro e; rw [e] at hkl; simp at hkl);obtain ⟨x, hx⟩ : ∃ x, x = l.getD k 0 := ⟨_, rfl⟩;have l1 : wr.cell? ⟨b, o + k, none⟩ = some (.int .i64 x) := hil.at HI.out.2.2 hkl hx;have HK : Hid (jh l k ↔ z < x /\ x < 64) := Lh (by rw [ET HI.out.1, HI.out.2.1, hx]);have HZ : Hid (x = lQ l (k + 1)) := Lh (by rw [Ef, hx]);clear hx hil
   by_cases h1 : x <= z
   ·have HBAD : Hid (V = false) := Lh (by rw [HV.out.1]; exact xh hkl (fun h => by have := HK.out.1 h; omega));have e1 : decide (x <= z) = true := dT h1;go_wp2_with fail;go_ret;exact ⟨HBAD.out.symm ▸ rfl, HI.out.2.2⟩
   ·have e1 : decide (x <= z) = false := dF h1
    by_cases h2 : 64 <= x
    ·have HBAD : Hid (V = false) := Lh (by rw [HV.out.1]; exact xh hkl (fun h => by have := HK.out.1 h; omega));have e2 : decide (64 <= x) = true := dT h2;go_wp2_with fail;go_ret;exact ⟨HBAD.out.symm ▸ rfl, HI.out.2.2⟩
    ·have e2 : decide (64 <= x) = false := dF h2;have HOK : Hid (jh l k) := Lh (HK.out.2 (by omega));go_wp2_with fail
     go_roundg g
     case rel => exact ⟨k + 1, x, by omega, rfl, by go_num, Lh ⟨fun j hj => by
      by_cases e : j < k
      ·exact HI.out.1 j e
      ·obtain rfl : j = k := by omega
       exact HOK.out, HZ.out, HI.out.2.2⟩⟩
     case measure => omega
  ·obtain rfl : k = n := by omega
   obtain ⟨X, hX⟩ : ∃ X, X = decide (0 < k) := ⟨_, rfl⟩;have e1 : decide (0 < (k : Int)) = X := by rw [hX]; exact decide_eq_decide.2 (by omega)
   have HE : Hid (V = X) := Lh (by
    rw [HV.out.1, hX]
    by_cases h0 : k = 0
    ·subst h0; unfold dI; rw [<- HV.out.2]; simp
    ·rw [FI (by rw [<- HV.out.2]; omega) (by rw [<- HV.out.2]; exact HI.out.1)];simp; omega)
   have e2 : decide (0 < k) = X := hX.symm;clear hX;go_wp2_with fail;go_ret;exact ⟨HE.out.symm ▸ rfl, HI.out.2.2⟩
namespace Rgx
def ak (ks : List Rx) (i : Nat) : Rx := ks.getD i (.mk 0 [] [])
theorem dO {ks : List Rx} {i : Nat} (h : i < ks.length) : ak ks i = ks[i] := by unfold ak; simp [List.getD, h]
theorem bN.kid {w : World} {ks : List Rx} {b o : Nat} (h : bN w ks (some ⟨b, o, none⟩) 0) {i : Nat} (hi : i < ks.length) : ∃ A' n' c' B' m' d', w.rangeAt b (o + i * 3) [.int .i64 (ak ks i).kind, .slice A' n' c', .slice B' m' d'] /\ aC w (ak ks i) A' n' c' B' m' d' := by
 obtain ⟨b', o', v1, v2, e, h1, h2, h3, h4⟩ := h.get i hi;obtain ⟨rfl, rfl⟩ : b = b' /\ o = o' := by simpa using e
 rw [Nat.zero_add] at h1 h2 h3;have ek : ak ks i = ks[i] := by unfold ak; simp [List.getD, hi]
 obtain ⟨A', n', c', B', m', d', e2, hop⟩ := jl.op (show jl w (.agg #[.int .i64 (ak ks i).kind, v1, v2]) (ak ks i) from ⟨v1, v2, rfl, by rw [ek]; exact h4⟩);simp only [Value.agg.injEq, Array.mk.injEq, List.cons.injEq, and_true, true_and] at e2;obtain ⟨rfl, rfl⟩ := e2;refine ⟨A', n', c', B', m', d', fun j v hv => ?_, hop⟩
 match j, hv with
 |0, hv => rw [<- ek] at h1; simpa using (by simpa using hv : Value.int IntKind.i64 (ak ks i).kind = v) ▸ h1
 |1, hv => exact (by simpa using hv : Value.slice A' n' c' = v) ▸ h2
 |2, hv => exact (by simpa using hv : Value.slice B' m' d' = v) ▸ h3
theorem bN.place {w : World} {ks : List Rx} {B : Option Addr} (h : bN w ks B 0) (hl : 0 < ks.length) : ∃ b o, B = some ⟨b, o, none⟩ := by
 obtain ⟨b, o, _, _, e, _⟩ := h.get 0 hl;exact ⟨b, o, e⟩
end Rgx
theorem fK {w W : World} {b o : Nat} {xs : List Value} (h : w.rangeAt b o xs) (hb : Below w.heap.size w W) : W.rangeAt b o xs := fun j v hv => (hb.cell (p := ⟨b, o + j, none⟩) (World.block_lt_of_cell? w _ (h j v hv))).trans (h j v hv)
theorem dG {ks : List Rx} {i : Nat} (h : i < ks.length) : ak ks i ∈ ks := by
 unfold ak;simp only [List.getD, List.getElem?_eq_getElem h, Option.getD_some];exact List.getElem_mem h
theorem DW {ks : List Rx} {p : Rx -> Bool} (h : ∀ j, j < ks.length -> p (ak ks j) = true) : ks.all p = true := by
 rw [List.all_eq_true];intro x hx;obtain ⟨j, hj, e⟩ := List.getElem_of_mem hx;have h1 := h j hj;unfold ak at h1;simp only [List.getD, List.getElem?_eq_getElem hj, Option.getD_some] at h1;rw [<- e]; exact h1
theorem F7 (ks : List Rx) (B : Option Addr) (m d : Nat) (hml : m = ks.length) (hmd : m <= d) (hdm : d <= 9223372036854775807) (w : World) (hks : bN w ks B 0) (hih : ∀ i, i < m -> ∀ (A B : Option Addr) (n c k d : Nat) (W : World), aC W (ak ks i) A n c B k d -> Calls Tryz.prog 14 #[.agg #[.int .i64 (ak ks i).kind, .slice A n c, .slice B k d]] W (aI W (ay (ak ks i))))
  (V : Bool) (hV : V = ks.all ay) : Calls Tryz.prog 45 #[.slice B m d] w (aI w V) := by
 have HK : Hid (m = ks.length /\ bN w ks B 0 /\ V = ks.all ay) := Lh ⟨hml, hks, hV⟩;have HIH := Lh hih;clear hml hks hV hih;go_enter Tryz.func45, Tryz.ntmps45;go_wp2_with fail
 go_loopg [7] m (fun g s7 wr => ∃ (i : Nat), i + g = m /\ s7 = .int .i64 (i : Int) /\ Hid ((∀ j, j < i -> ay (ak ks j) = true) /\ Below w.heap.size w wr))
 case atStart => exact ⟨0, by omega, rfl, Lh ⟨fun j h => by omega, Below.refl _ _⟩⟩
 case round =>
  obtain ⟨i, hi, rfl, HI⟩ := hrel
  by_cases hlt : i < m
  · obtain ⟨g, rfl⟩ : ∃ g, gk = g + 1 := ⟨gk - 1, by omega⟩;have hil : i < ks.length := by rw [<- HK.out.1]; exact hlt
    obtain ⟨b, o, rfl⟩ := HK.out.2.1.place (by omega);obtain ⟨A2, n2, c2, B2, m2, d2, hrg, hok⟩ := HK.out.2.1.kid hil;have HRG := Lh (fK hrg HI.out.2);obtain ⟨X, hX⟩ : ∃ X, X = ay (ak ks i) := ⟨_, rfl⟩;have HC : Hid (∀ W, Below w.heap.size w W -> Calls Tryz.prog 14 #[.agg #[.int .i64 (ak ks i).kind, .slice A2 n2 c2, .slice B2 m2 d2]] W (aI W X)) := Lh fun W hb => by rw [hX]; exact HIH.out i hlt A2 B2 n2 c2 m2 d2 W (hok.below hb)
    have HX := Lh hX;clear hrg hok hX hil
    cases X
    ·have HBAD : Hid (V = false) := Lh (by
      rw [HK.out.2.2, List.all_eq_false];exact ⟨_, dG (by rw [<- HK.out.1]; exact hlt), by rw [<- HX.out]; simp⟩)
     go_wp2_with (first
      |(refine aA rfl (.tmp 9) rfl b (o + i * 3) rfl (ak ks i).kind A2 B2 n2 c2 m2 d2 HRG.out ?_)
      |(refine wB rfl 25 (.tmp 4) (.tmp 10) rfl wr.heap.size 0 rfl [.int .i64 (ak ks i).kind, .slice A2 n2 c2, .slice B2 m2 d2] rfl (aa.new' wr zL _ 25 rfl) 3 au ?_; intro w4 hst9; have Hw4 : Hid (aa w4 wr.heap.size [.int .i64 (ak ks i).kind, .slice A2 n2 c2, .slice B2 m2 d2] 25 /\ Below wr.heap.size wr w4) := Lh (aZ hst9); clear hst9; have HB4 : Hid (Below w.heap.size w w4) := Lh (ae HI.out.2 Hw4.out.2); have hr4 := aM Hw4.out.1)
      |(refine aA rfl (.tmp 4) rfl wr.heap.size (0) rfl (ak ks i).kind A2 B2 n2 c2 m2 d2 hr4 ?_)
      |((with_reducible refine (HC.out _ HB4.out).mono ?_); rintro e w5 hp; obtain ⟨rfl, hb⟩ := aN hp; have H5 : Hid (Below w.heap.size w w5) := Lh (ae HB4.out hb); clear hp hb hr4))
     go_ret;exact ⟨HBAD.out.symm ▸ rfl, H5.out⟩
    ·skip
     go_wp2_with (first
      |(refine aA rfl (.tmp 9) rfl b (o + i * 3) rfl (ak ks i).kind A2 B2 n2 c2 m2 d2 HRG.out ?_)
      |(refine wB rfl 25 (.tmp 4) (.tmp 10) rfl wr.heap.size 0 rfl [.int .i64 (ak ks i).kind, .slice A2 n2 c2, .slice B2 m2 d2] rfl (aa.new' wr zL _ 25 rfl) 3 au ?_; intro w4 hst9; have Hw4 : Hid (aa w4 wr.heap.size [.int .i64 (ak ks i).kind, .slice A2 n2 c2, .slice B2 m2 d2] 25 /\ Below wr.heap.size wr w4) := Lh (aZ hst9); clear hst9; have HB4 : Hid (Below w.heap.size w w4) := Lh (ae HI.out.2 Hw4.out.2); have hr4 := aM Hw4.out.1)
      |(refine aA rfl (.tmp 4) rfl wr.heap.size (0) rfl (ak ks i).kind A2 B2 n2 c2 m2 d2 hr4 ?_)
      |((with_reducible refine (HC.out _ HB4.out).mono ?_); rintro e w5 hp; obtain ⟨rfl, hb⟩ := aN hp; have H5 : Hid (Below w.heap.size w w5) := Lh (ae HB4.out hb); clear hp hb hr4))
     go_roundg g
     case rel => exact ⟨i + 1, by omega, by go_num, Lh ⟨fun j hj => by
      by_cases e : j < i
      ·exact HI.out.1 j e
      ·obtain rfl : j = i := by omega
       exact HX.out.symm, H5.out⟩⟩
     case measure => omega
  · obtain rfl : i = m := by omega
    have HE : Hid (V = true) := Lh (by rw [HK.out.2.2]; exact DW (by rw [<- HK.out.1]; exact HI.out.1));go_wp2_with fail;go_ret;exact ⟨HE.out.symm ▸ rfl, HI.out.2⟩
theorem BB : ∀ (z : Nat) (r : Rx), SizeOf.sizeOf r <= z -> ∀ (V : Bool), V = ay r -> ∀ (A B : Option Addr) (n c m d : Nat) (w : World), aC w r A n c B m d -> Calls Tryz.prog 14 #[.agg #[.int .i64 r.kind, .slice A n c, .slice B m d]] w (aI w V) := by
 intro z
 induction z with
 |zero => intro r hz; exact absurd hz (by cases r; rw [Rx.mk.sizeOf_spec]; omega)
 |succ z ih =>
  intro r hz V hV A B n c m d w hop;have HAV : Hid (∀ W, Below w.heap.size w W -> Calls Tryz.prog 45 #[.slice B m d] W (aI W (r.kids.all ay))) := Lh fun W hb => F7 r.kids B m d hop.mlen hop.mcap hop.dmax W (bN.below hb _ hop.kids) (fun i hi A B n c k d W h => ih _ (by have := gB (dG (ks := r.kids) (i := i) (by rw [<- hop.mlen]; exact hi)); omega) _ rfl A B n c k d W h) _ rfl
  have HM : Hid (m = r.kids.length) := Lh hop.mlen;obtain ⟨K, hK⟩ : ∃ K, K = r.kind := ⟨_, rfl⟩;have HVF : Hid (V = if K < 0 \/ 5 < K then false else if K = 2 then dI r.syms && decide (m = 0) else if 0 < n \/ (K <= 1 /\ 0 < m) \/ (K = 5 /\ m ≠ 1) then false else r.kids.all ay) := Lh (by rw [hV, gH, hK, hop.nlen, hop.mlen]);have HST : Hid (∀ W, Below w.heap.size w W -> Calls Tryz.prog 44 #[.slice A n c] W (aI W (dI r.syms))) := Lh fun W hb => xG r.syms A n c hop.nlen hop.ncap hop.cmax _ rfl W (hop.syms.below hb)
  rw [<- hK];clear hV hop ih hz hK
  by_cases k0 : K = 0
  ·skip
   have ab : (K == 0) = true := bT (by omega)
   by_cases hn0 : n = 0
   ·skip
    have ub : ((n : Int) == 0) = true := bT (by omega)
    by_cases hm0 : m = 0
    ·skip
     have vb : ((m : Int) == 0) = true := bT (by omega);have vc : decide (m = 0) = true := dT (by omega);have HE : Hid (V = true) := Lh (by rw [HVF.out, if_neg (by omega), if_neg (by omega)]; first | (rw [if_pos (by omega)]) | (rw [if_neg (by omega), List.eq_nil_of_length_eq_zero (show r.kids.length = 0 by rw [<- HM.out]; omega)]; rfl));go_enter Tryz.func14, Tryz.ntmps14;go_wp2_with fail;go_ret;exact ⟨HE.out.symm ▸ rfl, ag _ _⟩
    ·skip
     have vb : ((m : Int) == 0) = false := bF (by omega);have vc : decide (m = 0) = false := dF (by omega);have HE : Hid (V = false) := Lh (by rw [HVF.out, if_neg (by omega), if_neg (by omega)]; first | (rw [if_pos (by omega)]) | (rw [if_neg (by omega), List.eq_nil_of_length_eq_zero (show r.kids.length = 0 by rw [<- HM.out]; omega)]; rfl));go_enter Tryz.func14, Tryz.ntmps14;go_wp2_with fail;go_ret;exact ⟨HE.out.symm ▸ rfl, ag _ _⟩
   ·skip
    have ub : ((n : Int) == 0) = false := bF (by omega);have HE : Hid (V = false) := Lh (by rw [HVF.out, if_neg (by omega), if_neg (by omega)]; first | (rw [if_pos (by omega)]) | (rw [if_neg (by omega), List.eq_nil_of_length_eq_zero (show r.kids.length = 0 by rw [<- HM.out]; omega)]; rfl));go_enter Tryz.func14, Tryz.ntmps14;go_wp2_with fail;go_ret;exact ⟨HE.out.symm ▸ rfl, ag _ _⟩
  ·by_cases k1 : K = 1
   ·skip
    have ab : (K == 0) = false := bF (by omega);have bb : (K == 1) = true := bT (by omega)
    by_cases hn0 : n = 0
    ·skip
     have ub : ((n : Int) == 0) = true := bT (by omega)
     by_cases hm0 : m = 0
     ·skip
      have vb : ((m : Int) == 0) = true := bT (by omega);have vc : decide (m = 0) = true := dT (by omega);have HE : Hid (V = true) := Lh (by rw [HVF.out, if_neg (by omega), if_neg (by omega)]; first | (rw [if_pos (by omega)]) | (rw [if_neg (by omega), List.eq_nil_of_length_eq_zero (show r.kids.length = 0 by rw [<- HM.out]; omega)]; rfl));go_enter Tryz.func14, Tryz.ntmps14;go_wp2_with fail;go_ret;exact ⟨HE.out.symm ▸ rfl, ag _ _⟩
     ·skip
      have vb : ((m : Int) == 0) = false := bF (by omega);have vc : decide (m = 0) = false := dF (by omega);have HE : Hid (V = false) := Lh (by rw [HVF.out, if_neg (by omega), if_neg (by omega)]; first | (rw [if_pos (by omega)]) | (rw [if_neg (by omega), List.eq_nil_of_length_eq_zero (show r.kids.length = 0 by rw [<- HM.out]; omega)]; rfl));go_enter Tryz.func14, Tryz.ntmps14;go_wp2_with fail;go_ret;exact ⟨HE.out.symm ▸ rfl, ag _ _⟩
    ·skip
     have ub : ((n : Int) == 0) = false := bF (by omega);have HE : Hid (V = false) := Lh (by rw [HVF.out, if_neg (by omega), if_neg (by omega)]; first | (rw [if_pos (by omega)]) | (rw [if_neg (by omega), List.eq_nil_of_length_eq_zero (show r.kids.length = 0 by rw [<- HM.out]; omega)]; rfl));go_enter Tryz.func14, Tryz.ntmps14;go_wp2_with fail;go_ret;exact ⟨HE.out.symm ▸ rfl, ag _ _⟩
   ·by_cases k2 : K = 2
    ·skip
     have ab : (K == 0) = false := bF (by omega);have bb : (K == 1) = false := bF (by omega);have cb : (K == 2) = true := bT (by omega);have HE0 : Hid (V = (dI r.syms && decide (m = 0))) := Lh (by rw [HVF.out, if_neg (by omega), if_pos k2]);obtain ⟨X, hX⟩ : ∃ X, X = dI r.syms := ⟨_, rfl⟩;rw [<- hX] at HST HE0;clear hX
     by_cases hm0 : m = 0
     ·skip
      have vb : ((m : Int) == 0) = true := bT (by omega);have vc : decide (m = 0) = true := dT (by omega);have HE : Hid (V = X) := Lh (by rw [HE0.out, vc]; simp);clear hm0;go_enter Tryz.func14, Tryz.ntmps14
      cases X
      all_goals (go_wp2_with ((with_reducible refine (HST.out _ (ag _ _)).mono ?_); rintro e w1 hp; obtain ⟨rfl, hb⟩ := aN hp; have H1 : Hid (Below w.heap.size w w1) := Lh (ae (ag _ _) hb); have hb2 := iX hb 2 (.slice B m d) rfl; clear hp hb))
      all_goals (go_ret; exact ⟨HE.out.symm ▸ rfl, H1.out⟩)
     ·skip
      have vb : ((m : Int) == 0) = false := bF (by omega);have vc : decide (m = 0) = false := dF (by omega);have HE : Hid (V = false) := Lh (by rw [HE0.out, vc]; simp);clear hm0;go_enter Tryz.func14, Tryz.ntmps14
      cases X
      all_goals (go_wp2_with ((with_reducible refine (HST.out _ (ag _ _)).mono ?_); rintro e w1 hp; obtain ⟨rfl, hb⟩ := aN hp; have H1 : Hid (Below w.heap.size w w1) := Lh (ae (ag _ _) hb); have hb2 := iX hb 2 (.slice B m d) rfl; clear hp hb))
      all_goals (go_ret; exact ⟨HE.out.symm ▸ rfl, H1.out⟩)
    ·by_cases k34 : K = 3 \/ K = 4
     ·by_cases hn0 : n = 0
      ·have HE : Hid (V = r.kids.all ay) := Lh (by rw [HVF.out, if_neg (by omega), if_neg k2, if_neg (by omega)]);obtain ⟨X, hX⟩ : ∃ X, X = r.kids.all ay := ⟨_, rfl⟩;rw [<- hX] at HAV HE;clear hX
       rcases k34 with k3 | k4
       ·skip
        have ab : (K == 0) = false := bF (by omega);have bb : (K == 1) = false := bF (by omega);have cb : (K == 2) = false := bF (by omega);have db : (K == 3) = true := bT (by omega);have ub : ((n : Int) == 0) = true := bT (by omega);go_enter Tryz.func14, Tryz.ntmps14
        go_wp2_with ((with_reducible refine (HAV.out _ (ag _ _)).mono ?_); rintro e w1 hp; obtain ⟨rfl, hb⟩ := aN hp; have H1 : Hid (Below w.heap.size w w1) := Lh (ae (ag _ _) hb); clear hp hb)
        go_ret;exact ⟨HE.out.symm ▸ rfl, H1.out⟩
       ·skip
        have ab : (K == 0) = false := bF (by omega);have bb : (K == 1) = false := bF (by omega);have cb : (K == 2) = false := bF (by omega);have db : (K == 3) = false := bF (by omega);have eb : (K == 4) = true := bT (by omega);have ub : ((n : Int) == 0) = true := bT (by omega);go_enter Tryz.func14, Tryz.ntmps14
        go_wp2_with ((with_reducible refine (HAV.out _ (ag _ _)).mono ?_); rintro e w1 hp; obtain ⟨rfl, hb⟩ := aN hp; have H1 : Hid (Below w.heap.size w w1) := Lh (ae (ag _ _) hb); clear hp hb)
        go_ret;exact ⟨HE.out.symm ▸ rfl, H1.out⟩
      ·have HE : Hid (V = false) := Lh (by rw [HVF.out, if_neg (by omega), if_neg k2, if_pos (by omega)])
       rcases k34 with k3 | k4
       ·skip
        have ab : (K == 0) = false := bF (by omega);have bb : (K == 1) = false := bF (by omega);have cb : (K == 2) = false := bF (by omega);have db : (K == 3) = true := bT (by omega);have ub : ((n : Int) == 0) = false := bF (by omega);go_enter Tryz.func14, Tryz.ntmps14;go_wp2_with fail;go_ret;exact ⟨HE.out.symm ▸ rfl, ag _ _⟩
       ·skip
        have ab : (K == 0) = false := bF (by omega);have bb : (K == 1) = false := bF (by omega);have cb : (K == 2) = false := bF (by omega);have db : (K == 3) = false := bF (by omega);have eb : (K == 4) = true := bT (by omega);have ub : ((n : Int) == 0) = false := bF (by omega);go_enter Tryz.func14, Tryz.ntmps14;go_wp2_with fail;go_ret;exact ⟨HE.out.symm ▸ rfl, ag _ _⟩
     ·skip
      have ab : (K == 0) = false := bF (by omega);have bb : (K == 1) = false := bF (by omega);have cb : (K == 2) = false := bF (by omega);have db : (K == 3) = false := bF (by omega);have eb : (K == 4) = false := bF (by omega)
      by_cases k5 : K = 5
      ·skip
       have fb : (K == 5) = true := bT (by omega)
       by_cases hn0 : n = 0
       ·by_cases hm1 : m = 1
        ·have HE : Hid (V = r.kids.all ay) := Lh (by rw [HVF.out, if_neg (by omega), if_neg k2, if_neg (by omega)]);obtain ⟨X, hX⟩ : ∃ X, X = r.kids.all ay := ⟨_, rfl⟩;rw [<- hX] at HAV HE;clear hX;have ub : ((n : Int) == 0) = true := bT (by omega);have vb : ((m : Int) == 1) = true := bT (by omega);have vc : decide (m = 1) = true := dT (by omega);clear hm1 k5;go_enter Tryz.func14, Tryz.ntmps14
         go_wp2_with ((with_reducible refine (HAV.out _ (ag _ _)).mono ?_); rintro e w1 hp; obtain ⟨rfl, hb⟩ := aN hp; have H1 : Hid (Below w.heap.size w w1) := Lh (ae (ag _ _) hb); clear hp hb)
         go_ret;exact ⟨HE.out.symm ▸ rfl, H1.out⟩
        ·have HE : Hid (V = false) := Lh (by rw [HVF.out, if_neg (by omega), if_neg k2, if_pos (by omega)]);have ub : ((n : Int) == 0) = true := bT (by omega);have vb : ((m : Int) == 1) = false := bF (by omega);have vc : decide (m = 1) = false := dF (by omega);go_enter Tryz.func14, Tryz.ntmps14;go_wp2_with fail;go_ret;exact ⟨HE.out.symm ▸ rfl, ag _ _⟩
       ·have HE : Hid (V = false) := Lh (by rw [HVF.out, if_neg (by omega), if_neg k2, if_pos (by omega)]);have ub : ((n : Int) == 0) = false := bF (by omega);go_enter Tryz.func14, Tryz.ntmps14;go_wp2_with fail;go_ret;exact ⟨HE.out.symm ▸ rfl, ag _ _⟩
      ·skip
       have fb : (K == 5) = false := bF (by omega);have HE : Hid (V = false) := Lh (by rw [HVF.out, if_pos (by omega)]);go_enter Tryz.func14, Tryz.ntmps14;go_wp2_with fail;go_ret;exact ⟨HE.out.symm ▸ rfl, ag _ _⟩
theorem qW {r : Rx} {A B : Option Addr} {n c m d : Nat} {w : World} (h : aC w r A n c B m d) (V : Bool) (hV : V = ay r) : Calls Tryz.prog 14 #[.agg #[.int .i64 r.kind, .slice A n c, .slice B m d]] w (aI w V) := BB _ r (Nat.le_refl _) V hV A B n c m d w h
section
open Go.RowKit
open Alp
open Rgx
namespace Rgx
mutual
def aP (p : Nat -> Prop) (w : World) : Rx -> Value -> Value -> Prop
 |.mk k s ks, v1, v2 => (bI k /\ ∀ x ∈ s, bI x) /\ (∃ A n c, v1 = .slice A n c /\ n = s.length /\ n <= c /\ c <= maxLen /\ Rd w A (iv s) /\ (s ≠ [] -> ∀ b o, A = some ⟨b, o, none⟩ -> p b)) /\ ∃ B m d, v2 = .slice B m d /\ m = ks.length /\ m <= d /\ d <= maxLen /\ bD p w ks B 0
def bD (p : Nat -> Prop) (w : World) : List Rx -> Option Addr -> Nat -> Prop
 |[], _, _ => True
 |r :: rs, B, i => (∃ b o v1 v2, p b /\ B = some ⟨b, o, none⟩ /\ w.cell? ⟨b, o + i * 3, none⟩ = some (.int .i64 r.kind) /\ w.cell? ⟨b, o + i * 3 + 1, none⟩ = some v1 /\ w.cell? ⟨b, o + i * 3 + 2, none⟩ = some v2 /\ aP p w r v1 v2) /\ bD p w rs B (i + 1)
end
section
variable {p q : Nat -> Prop} {w W : World}
mutual
theorem aP.ok : ∀ (r : Rx) {v1 v2 : Value}, aP p w r v1 v2 -> eY w r v1 v2
 |.mk k s ks, v1, v2, h => by
  rw [aP] at h
  rw [eY]
  obtain ⟨h0, ⟨A, n, c, e1, e2, e3, e4, e5, _⟩, B, m, d, f1, f2, f3, f4, f5⟩ := h
  exact ⟨h0, ⟨A, n, c, e1, e2, e3, e4, e5⟩, B, m, d, f1, f2, f3, f4, bD.ok ks f5⟩
theorem bD.ok : ∀ (ks : List Rx) {B : Option Addr} {j : Nat}, bD p w ks B j -> bN w ks B j
 |[], _, _, _ => by rw [bN]; trivial
 |r :: rs, B, j, h => by
  rw [bD] at h
  rw [bN]
  obtain ⟨⟨b, o, v1, v2, _, e1, e2, e3, e4, e5⟩, h2⟩ := h
  exact ⟨⟨b, o, v1, v2, e1, e2, e3, e4, aP.ok r e5⟩, bD.ok rs h2⟩
end
mutual
theorem eY.q : ∀ (r : Rx) {v1 v2 : Value}, eY w r v1 v2 -> aP (fun b => b < w.heap.size) w r v1 v2
 |.mk k s ks, v1, v2, h => by
  rw [eY] at h
  rw [aP]
  obtain ⟨h0, ⟨A, n, c, e1, e2, e3, e4, e5⟩, B, m, d, f1, f2, f3, f4, f5⟩ := h
  refine ⟨h0, ⟨A, n, c, e1, e2, e3, e4, e5, fun hs b o hA => ?_⟩, B, m, d, f1, f2, f3, f4, bN.q ks f5⟩
  rcases e5 with e | ⟨b', o', e, hc⟩
  ·exact absurd e (by simpa [iv] using hs)
  ·obtain ⟨rfl, rfl⟩ : b = b' /\ o = o' := by rw [hA] at e; simpa using e
   match s, hs with
   |x :: t, _ => exact World.block_lt_of_cell? w _ (hc 0 _ rfl)
theorem bN.q : ∀ (ks : List Rx) {B : Option Addr} {j : Nat}, bN w ks B j -> bD (fun b => b < w.heap.size) w ks B j
 |[], _, _, _ => by rw [bD]; trivial
 |r :: rs, B, j, h => by
  rw [bN] at h
  rw [bD]
  obtain ⟨⟨b, o, v1, v2, e1, e2, e3, e4, e5⟩, h2⟩ := h
  exact ⟨⟨b, o, v1, v2, World.block_lt_of_cell? w _ e2, e1, e2, e3, e4, eY.q r e5⟩, bN.q rs h2⟩
end
mutual
theorem aP.keep (hk : ∀ b o, p b -> W.cell? ⟨b, o, none⟩ = w.cell? ⟨b, o, none⟩) : ∀ (r : Rx) {v1 v2 : Value}, aP p w r v1 v2 -> aP p W r v1 v2
 |.mk k s ks, v1, v2, h => by
  rw [aP] at h ⊢
  obtain ⟨h0, ⟨A, n, c, e1, e2, e3, e4, e5, e6⟩, B, m, d, f1, f2, f3, f4, f5⟩ := h
  refine ⟨h0, ⟨A, n, c, e1, e2, e3, e4, ?_, e6⟩, B, m, d, f1, f2, f3, f4, bD.keep hk ks f5⟩
  rcases e5 with e | ⟨b', o', e, hc⟩
  ·exact .inl e
  ·by_cases hs : s = []
   ·left; rw [hs]; rfl
   ·exact .inr ⟨b', o', e, fun k v hv => (hk b' _ (e6 hs b' o' e)).trans (hc k v hv)⟩
theorem bD.keep (hk : ∀ b o, p b -> W.cell? ⟨b, o, none⟩ = w.cell? ⟨b, o, none⟩) : ∀ (ks : List Rx) {B : Option Addr} {j : Nat}, bD p w ks B j -> bD p W ks B j
 |[], _, _, _ => by rw [bD]; trivial
 |r :: rs, B, j, h => by
  rw [bD] at h ⊢
  obtain ⟨⟨b, o, v1, v2, hp, e1, e2, e3, e4, e5⟩, h2⟩ := h
  exact ⟨⟨b, o, v1, v2, hp, e1, (hk b _ hp).trans e2, (hk b _ hp).trans e3, (hk b _ hp).trans e4, aP.keep hk r e5⟩, bD.keep hk rs h2⟩
end
mutual
theorem aP.mono (hpq : ∀ b, p b -> q b) : ∀ (r : Rx) {v1 v2 : Value}, aP p w r v1 v2 -> aP q w r v1 v2
 |.mk k s ks, v1, v2, h => by
  rw [aP] at h ⊢
  obtain ⟨h0, ⟨A, n, c, e1, e2, e3, e4, e5, e6⟩, B, m, d, f1, f2, f3, f4, f5⟩ := h
  exact ⟨h0, ⟨A, n, c, e1, e2, e3, e4, e5, fun hs b o hA => hpq b (e6 hs b o hA)⟩, B, m, d, f1, f2, f3, f4, bD.mono hpq ks f5⟩
theorem bD.mono (hpq : ∀ b, p b -> q b) : ∀ (ks : List Rx) {B : Option Addr} {j : Nat}, bD p w ks B j -> bD q w ks B j
 |[], _, _, _ => by rw [bD]; trivial
 |r :: rs, B, j, h => by
  rw [bD] at h ⊢
  obtain ⟨⟨b, o, v1, v2, hp, e1, e2, e3, e4, e5⟩, h2⟩ := h
  exact ⟨⟨b, o, v1, v2, hpq b hp, e1, e2, e3, e4, aP.mono hpq r e5⟩, bD.mono hpq rs h2⟩
end
mutual
theorem aP.and : ∀ (r : Rx) {v1 v2 : Value}, aP p w r v1 v2 -> aP q w r v1 v2 -> aP (fun b => p b /\ q b) w r v1 v2
 |.mk k s ks, v1, v2, h, h' => by
  rw [aP] at h h' ⊢
  obtain ⟨h0, ⟨A, n, c, e1, e2, e3, e4, e5, e6⟩, B, m, d, f1, f2, f3, f4, f5⟩ := h
  obtain ⟨_, ⟨A', n', c', e1', _, _, _, _, e6'⟩, B', m', d', f1', _, _, _, f5'⟩ := h'
  subst e1
  subst f1
  simp only [Value.slice.injEq] at e1' f1'
  obtain ⟨rfl, rfl, rfl⟩ := e1'
  obtain ⟨rfl, rfl, rfl⟩ := f1'
  exact ⟨h0, ⟨A, n, c, rfl, e2, e3, e4, e5, fun hs b o hA => ⟨e6 hs b o hA, e6' hs b o hA⟩⟩, B, m, d, rfl, f2, f3, f4, bD.and ks f5 f5'⟩
theorem bD.and : ∀ (ks : List Rx) {B : Option Addr} {j : Nat}, bD p w ks B j -> bD q w ks B j -> bD (fun b => p b /\ q b) w ks B j
 |[], _, _, _, _ => by rw [bD]; trivial
 |r :: rs, B, j, h, h' => by
  rw [bD] at h h' ⊢
  obtain ⟨⟨b, o, v1, v2, hp, e1, e2, e3, e4, e5⟩, h2⟩ := h
  obtain ⟨⟨b', o', v1', v2', hp', e1', e2', e3', e4', e5'⟩, h2'⟩ := h'
  subst e1
  obtain ⟨rfl, rfl⟩ : b = b' /\ o = o' := by simpa using e1'
  rw [e3] at e3'
  rw [e4] at e4'
  obtain rfl := Option.some.inj e3'
  obtain rfl := Option.some.inj e4'
  exact ⟨⟨b, o, v1, v2, ⟨hp, hp'⟩, rfl, e2, e3, e4, aP.and r e5 e5'⟩, bD.and rs h2 h2'⟩
end
theorem aP.below {r : Rx} {v1 v2 : Value} (h : aP p w r v1 v2) (hb : Below w.heap.size w W) : aP p W r v1 v2 := by
 have h1 := aP.and r h (eY.q r (aP.ok r h));have h2 := aP.keep (W := W) (fun b o hp => hb.cell (p := ⟨b, o, none⟩) hp.2) r h1;exact aP.mono (fun b hp => hp.1) r h2
end
theorem aP.iff (p : Nat -> Prop) (w : World) (r : Rx) (v1 v2 : Value) : aP p w r v1 v2 ↔ (bI r.kind /\ ∀ x ∈ r.syms, bI x) /\ (∃ A n c, v1 = .slice A n c /\ n = r.syms.length /\ n <= c /\ c <= maxLen /\ Rd w A (iv r.syms) /\ (r.syms ≠ [] -> ∀ b o, A = some ⟨b, o, none⟩ -> p b)) /\ ∃ B m d, v2 = .slice B m d /\ m = r.kids.length /\ m <= d /\ d <= maxLen /\ bD p w r.kids B 0 := by
 cases r with
 |mk k s ks => rw [aP]; rfl
structure ai (p : Nat -> Prop) (w : World) (r : Rx) (A : Option Addr) (n c : Nat) (B : Option Addr) (m d : Nat) : Prop where
 o : aC w r A n c B m d
 q : aP p w r (.slice A n c) (.slice B m d)
section
variable {p q : Nat -> Prop} {w W : World} {r : Rx} {A B : Option Addr} {n c m d : Nat} {v1 v2 : Value}
theorem aP.op (h : aP p w r v1 v2) : ∃ A n c B m d, v1 = .slice A n c /\ v2 = .slice B m d /\ ai p w r A n c B m d := by
 obtain ⟨A, n, c, B, m, d, e, ho⟩ := jl.op (show jl w (.agg #[.int .i64 r.kind, v1, v2]) r from ⟨v1, v2, rfl, aP.ok r h⟩);simp only [Value.agg.injEq, Array.mk.injEq, List.cons.injEq, and_true, true_and] at e;obtain ⟨rfl, rfl⟩ := e;exact ⟨A, n, c, B, m, d, rfl, rfl, ho, h⟩
theorem ai.below (h : ai p w r A n c B m d) (hb : Below w.heap.size w W) : ai p W r A n c B m d := ⟨h.o.below hb, h.q.below hb⟩
theorem ai.mono (h : ai p w r A n c B m d) (hpq : ∀ b, p b -> q b) : ai q w r A n c B m d := ⟨h.o, aP.mono hpq r h.q⟩
theorem ai.and (h : ai p w r A n c B m d) (k : ai q w r A n c B m d) : ai (fun b => p b /\ q b) w r A n c B m d := ⟨h.o, aP.and r h.q k.q⟩
theorem aC.toP (h : aC w r A n c B m d) : ai (fun b => b < w.heap.size) w r A n c B m d := by
 obtain ⟨v1, v2, e, h2⟩ := h.v;simp only [Value.agg.injEq, Array.mk.injEq, List.cons.injEq, and_true, true_and] at e;obtain ⟨rfl, rfl⟩ := e;exact ⟨h, eY.q r h2⟩
end
def aU (p : Nat -> Prop) (w : World) (ks : List Rx) (B : Option Addr) : Prop := ∀ i (h : i < ks.length), ∃ b o v1 v2, B = some ⟨b, o, none⟩ /\ w.cell? ⟨b, o + i * 3, none⟩ = some (.int .i64 ks[i].kind) /\ w.cell? ⟨b, o + i * 3 + 1, none⟩ = some v1 /\ w.cell? ⟨b, o + i * 3 + 2, none⟩ = some v2 /\ aP p w ks[i] v1 v2
def aG (p : Nat -> Prop) (w : World) (xs : List Value) (rs : List Rx) : Prop := xs.length = rs.length * 3 /\ ∀ i (h : i < rs.length), ∃ v1 v2, xs[i * 3]? = some (.int .i64 rs[i].kind) /\ xs[i * 3 + 1]? = some v1 /\ xs[i * 3 + 2]? = some v2 /\ aP p w rs[i] v1 v2
section
variable {p q : Nat -> Prop} {w W : World} {ks rs ts : List Rx} {xs ys : List Value} {B : Option Addr}
theorem bD.get : ∀ {ks : List Rx} {j : Nat}, bD p w ks B j -> ∀ i (h : i < ks.length), ∃ b o v1 v2, p b /\ B = some ⟨b, o, none⟩ /\ w.cell? ⟨b, o + (j + i) * 3, none⟩ = some (.int .i64 ks[i].kind) /\ w.cell? ⟨b, o + (j + i) * 3 + 1, none⟩ = some v1 /\ w.cell? ⟨b, o + (j + i) * 3 + 2, none⟩ = some v2 /\ aP p w ks[i] v1 v2
 |[], j, _, i, h => absurd h (by simp)
 |r :: rs, j, hk, i, h => by
  rw [bD] at hk
  cases i with
  |zero => exact hk.1
  |succ i =>
   have h2 := bD.get hk.2 i (by simpa using h);have e : j + 1 + i = j + (i + 1) := by omega
   rw [e] at h2;exact h2
theorem bD.e (h : bD p w ks B 0) : aU p w ks B := fun i hi => by
 obtain ⟨b, o, v1, v2, _, h1⟩ := h.get i hi;rw [Nat.zero_add] at h1;exact ⟨b, o, v1, v2, h1⟩
theorem bD.of : ∀ (ks : List Rx) (j : Nat), (∀ i (h : i < ks.length), ∃ b o v1 v2, p b /\ B = some ⟨b, o, none⟩ /\ w.cell? ⟨b, o + (j + i) * 3, none⟩ = some (.int .i64 ks[i].kind) /\ w.cell? ⟨b, o + (j + i) * 3 + 1, none⟩ = some v1 /\ w.cell? ⟨b, o + (j + i) * 3 + 2, none⟩ = some v2 /\ aP p w ks[i] v1 v2) -> bD p w ks B j
 |[], _, _ => by rw [bD]; trivial
 |r :: rs, j, h => by
  rw [bD];refine ⟨h 0 (by simp), bD.of rs (j + 1) fun i hi => ?_⟩;have h2 := h (i + 1) (by simpa using hi);rw [show j + (i + 1) = j + 1 + i by omega] at h2;exact h2
theorem aU.toQ (h : aU p w ks B) (hp : ∀ b o, B = some ⟨b, o, none⟩ -> p b) : bD p w ks B 0 := bD.of ks 0 fun i hi => by
 obtain ⟨b, o, v1, v2, e, h1⟩ := h i hi;rw [Nat.zero_add];exact ⟨b, o, v1, v2, hp b o e, e, h1⟩
theorem aU.ok (h : aU p w ks B) : bN w ks B 0 := bD.ok (p := fun _ => True) ks ((show aU (fun _ => True) w ks B from fun i hi => by
 obtain ⟨b, o, v1, v2, e, h1, h2, h3, h4⟩ := h i hi;exact ⟨b, o, v1, v2, e, h1, h2, h3, aP.mono (fun _ _ => trivial) _ h4⟩).toQ fun _ _ _ => trivial)
theorem aU.mono (h : aU p w ks B) (hpq : ∀ b, p b -> q b) : aU q w ks B := fun i hi => by
 obtain ⟨b, o, v1, v2, e, h1, h2, h3, h4⟩ := h i hi;exact ⟨b, o, v1, v2, e, h1, h2, h3, aP.mono hpq _ h4⟩
theorem aU.below (h : aU p w ks B) (hb : Below w.heap.size w W) : aU p W ks B := fun i hi => by
 obtain ⟨b, o, v1, v2, e, h1, h2, h3, h4⟩ := h i hi;exact ⟨b, o, v1, v2, e, (hb.cell (p := ⟨b, _, none⟩) (World.block_lt_of_cell? w _ h1)).trans h1, (hb.cell (p := ⟨b, _, none⟩) (World.block_lt_of_cell? w _ h2)).trans h2, (hb.cell (p := ⟨b, _, none⟩) (World.block_lt_of_cell? w _ h3)).trans h3, h4.below hb⟩
theorem aU.place (h : aU p w ks B) (hl : 0 < ks.length) : ∃ b o, B = some ⟨b, o, none⟩ := by
 obtain ⟨b, o, _, _, e, _⟩ := h 0 hl;exact ⟨b, o, e⟩
theorem aU.kid {b o : Nat} (h : aU p w ks (some ⟨b, o, none⟩)) {i : Nat} (hi : i < ks.length) : ∃ A' n' c' B' m' d', w.rangeAt b (o + i * 3) [.int .i64 (ak ks i).kind, .slice A' n' c', .slice B' m' d'] /\ ai p w (ak ks i) A' n' c' B' m' d' := by
 obtain ⟨b', o', v1, v2, e, h1, h2, h3, h4⟩ := h i hi;obtain ⟨rfl, rfl⟩ : b = b' /\ o = o' := by simpa using e
 have ek : ak ks i = ks[i] := by unfold ak; simp [List.getD, hi]
 rw [<- ek] at h1 h4;obtain ⟨A', n', c', B', m', d', rfl, rfl, hop⟩ := h4.op;refine ⟨A', n', c', B', m', d', fun j v hv => ?_, hop⟩
 match j, hv with
 |0, hv => simpa using (by simpa using hv : Value.int IntKind.i64 (ak ks i).kind = v) ▸ h1
 |1, hv => exact (by simpa using hv : Value.slice A' n' c' = v) ▸ h2
 |2, hv => exact (by simpa using hv : Value.slice B' m' d' = v) ▸ h3
theorem aG.nil (p : Nat -> Prop) (w : World) : aG p w [] [] := ⟨rfl, fun i h => absurd h (by simp)⟩
theorem aG.mono (h : aG p w xs rs) (hpq : ∀ b, p b -> q b) : aG q w xs rs := ⟨h.1, fun i hi => by
 obtain ⟨v1, v2, e1, e2, e3, e4⟩ := h.2 i hi;exact ⟨v1, v2, e1, e2, e3, aP.mono hpq _ e4⟩⟩
theorem aG.below (h : aG p w xs rs) (hb : Below w.heap.size w W) : aG p W xs rs := ⟨h.1, fun i hi => by
 obtain ⟨v1, v2, e1, e2, e3, e4⟩ := h.2 i hi;exact ⟨v1, v2, e1, e2, e3, e4.below hb⟩⟩
theorem aG.keep (h : aG p w xs rs) (hk : ∀ b o, p b -> W.cell? ⟨b, o, none⟩ = w.cell? ⟨b, o, none⟩) : aG p W xs rs := ⟨h.1, fun i hi => by
 obtain ⟨v1, v2, e1, e2, e3, e4⟩ := h.2 i hi;exact ⟨v1, v2, e1, e2, e3, aP.keep hk _ e4⟩⟩
theorem aG.lt (h : aG p w xs rs) : aG (fun b => p b /\ b < w.heap.size) w xs rs := ⟨h.1, fun i hi => by
 obtain ⟨v1, v2, e1, e2, e3, e4⟩ := h.2 i hi;exact ⟨v1, v2, e1, e2, e3, aP.and _ e4 (eY.q _ (aP.ok _ e4))⟩⟩
theorem aG.app (h : aG p w xs rs) (k : aG p w ys ts) : aG p w (xs ++ ys) (rs ++ ts) := by
 refine ⟨by rw [List.length_append, List.length_append, h.1, k.1]; omega, fun i hi => ?_⟩;rw [List.length_append] at hi
 by_cases e : i < rs.length
 ·obtain ⟨v1, v2, e1, e2, e3, e4⟩ := h.2 i e;have hl := h.1;rw [List.getElem?_append_left (by omega), List.getElem?_append_left (by omega), List.getElem?_append_left (by omega), List.getElem_append_left e];exact ⟨v1, v2, e1, e2, e3, e4⟩
 ·obtain ⟨v1, v2, e1, e2, e3, e4⟩ := k.2 (i - rs.length) (by omega);have hl := h.1;rw [List.getElem?_append_right (by omega), List.getElem?_append_right (by omega), List.getElem?_append_right (by omega), List.getElem_append_right (by omega)];rw [show i * 3 - xs.length = (i - rs.length) * 3 by omega, show i * 3 + 1 - xs.length = (i - rs.length) * 3 + 1 by omega, show i * 3 + 2 - xs.length = (i - rs.length) * 3 + 2 by omega];exact ⟨v1, v2, e1, e2, e3, e4⟩
theorem aG.one {r : Rx} {v1 v2 : Value} (h : aP p w r v1 v2) : aG p w [.int .i64 r.kind, v1, v2] [r] := ⟨rfl, fun i hi => by
 obtain rfl : i = 0 := by simpa using hi
 exact ⟨v1, v2, rfl, rfl, rfl, h⟩⟩
theorem aP.one {r : Rx} {v1 v2 : Value} (h : aP p w r v1 v2) : v1.oneCell' = true /\ v2.oneCell' = true := by
 obtain ⟨A, n, c, B, m, d, rfl, rfl, _⟩ := h.op;exact ⟨rfl, rfl⟩
theorem aG.ones (h : aG p w xs rs) : ∀ u ∈ xs, u.oneCell' = true := fun u hu => by
 obtain ⟨j, hj, rfl⟩ := List.getElem_of_mem hu;have hl := h.1;obtain ⟨q, hq⟩ : ∃ q, q = j / 3 := ⟨_, rfl⟩;obtain ⟨v1, v2, e1, e2, e3, e4⟩ := h.2 q (by omega);have h12 := e4.one;have h0 : ∀ v, xs[j]? = some v -> xs[j] = v := fun v hv => by rw [List.getElem?_eq_getElem hj] at hv; exact Option.some.inj hv
 rcases (by omega : j = q * 3 \/ j = q * 3 + 1 \/ j = q * 3 + 2) with e | e | e
 ·rw [h0 _ ((congrArg (xs[·]?) e).trans e1)]; rfl
 ·rw [h0 _ ((congrArg (xs[·]?) e).trans e2)]; exact h12.1
 ·rw [h0 _ ((congrArg (xs[·]?) e).trans e3)]; exact h12.2
theorem aG.e {b o : Nat} (h : aG p w xs rs) (hc : ∀ j v, xs[j]? = some v -> w.cell? ⟨b, o + j, none⟩ = some v) : aU p w rs (some ⟨b, o, none⟩) := fun i hi => by
 obtain ⟨v1, v2, e1, e2, e3, e4⟩ := h.2 i hi;exact ⟨b, o, v1, v2, rfl, hc _ _ e1, hc _ _ e2, hc _ _ e3, e4⟩
theorem aU.cells {b o : Nat} (h : aU p w rs (some ⟨b, o, none⟩)) : ∃ xs, aG p w xs rs /\ ∀ j v, xs[j]? = some v -> w.cell? ⟨b, o + j, none⟩ = some v := by
 have H : ∀ n, n <= rs.length -> ∃ xs, aG p w xs (rs.take n) /\ ∀ j v, xs[j]? = some v -> w.cell? ⟨b, o + j, none⟩ = some v := by
  intro n
  induction n with
  |zero => intro _; exact ⟨[], by rw [List.take_zero]; exact aG.nil p w, fun j v hv => by simp at hv⟩
  |succ n ih =>
   intro hn;obtain ⟨xs, h1, h2⟩ := ih (by omega);obtain ⟨b', o', v1, v2, e, e1, e2, e3, e4⟩ := h n (by omega);obtain ⟨rfl, rfl⟩ : b = b' /\ o = o' := by simpa using e
   have hl : xs.length = n * 3 := by rw [h1.1, List.length_take]; omega
   refine ⟨xs ++ [.int .i64 rs[n].kind, v1, v2], by rw [List.take_succ_eq_append_getElem (by omega)]; exact h1.app (aG.one e4), fun j v hv => ?_⟩
   by_cases hj : j < xs.length
   ·rw [List.getElem?_append_left hj] at hv;exact h2 j v hv
   ·rw [List.getElem?_append_right (by omega)] at hv;have hj2 : j - xs.length < 3 := by have := (List.getElem?_eq_some_iff.1 hv).1; simpa using this
    rcases (by omega : j = n * 3 \/ j = n * 3 + 1 \/ j = n * 3 + 2) with e5 | e5 | e5
    ·rw [show j - xs.length = 0 by omega] at hv;rw [e5, <- (by simpa using hv : Value.int IntKind.i64 rs[n].kind = v)]; exact e1
    ·rw [show j - xs.length = 1 by omega] at hv;rw [e5, <- (by simpa using hv : v1 = v)]; exact e2
    ·rw [show j - xs.length = 2 by omega] at hv;rw [e5, <- (by simpa using hv : v2 = v)]; exact e3
 obtain ⟨xs, h1, h2⟩ := H rs.length (Nat.le_refl _);rw [List.take_length] at h1;exact ⟨xs, h1, h2⟩
end
def dn (p : Nat -> Prop) (w : World) (r : Rx) (e : Ending) (w' : World) : Prop := ∃ A n c B m d, e = .returned (.agg #[.int .i64 r.kind, .slice A n c, .slice B m d]) /\ ai (fun b => p b \/ w.heap.size <= b) w' r A n c B m d /\ Below w.heap.size w w'
section
variable {p q : Nat -> Prop} {w W w' : World} {r : Rx} {e : Ending} {A B : Option Addr} {n c m d : Nat}
theorem bV (h : dn p w r e w') : ∃ A n c B m d, e = .returned (.agg #[.int .i64 r.kind, .slice A n c, .slice B m d]) /\ ai (fun b => p b \/ w.heap.size <= b) w' r A n c B m d /\ Below w.heap.size w w' := h
theorem ai.kids (h : ai p w r A n c B m d) : aU p w r.kids B /\ (r.kids ≠ [] -> ∀ b o, B = some ⟨b, o, none⟩ -> p b) := by
 obtain ⟨_, _, B', m', d', e, _, _, _, hq⟩ := (aP.iff p w r _ _).1 h.q;simp only [Value.slice.injEq] at e;obtain ⟨rfl, rfl, rfl⟩ := e;refine ⟨hq.e, fun hn b o hB => ?_⟩;obtain ⟨b', o', _, _, hp, e, _⟩ := hq.get 0 (List.length_pos_iff.2 hn);obtain ⟨rfl, rfl⟩ : b = b' /\ o = o' := by rw [hB] at e; simpa using e
 exact hp
theorem ai.syms (h : ai p w r A n c B m d) : r.syms ≠ [] -> ∀ b o, A = some ⟨b, o, none⟩ -> p b := by
 obtain ⟨_, ⟨A', n', c', e, _, _, _, _, hs⟩, _⟩ := (aP.iff p w r _ _).1 h.q;simp only [Value.slice.injEq] at e;obtain ⟨rfl, rfl, rfl⟩ := e;exact hs
theorem ai.make {K : Int} {s : List Int} {ks : List Rx} (hK : bI K) (hs : ∀ x ∈ s, bI x) (hn : n = s.length) (hnc : n <= c) (hcm : c <= maxLen) (hr : Rd w A (iv s)) (hA : s ≠ [] -> ∀ b o, A = some ⟨b, o, none⟩ -> p b) (hm : m = ks.length) (hmd : m <= d) (hdm : d <= maxLen) (hk : aU p w ks B) (hB : ks ≠ [] -> ∀ b o, B = some ⟨b, o, none⟩ -> p b) : ai p w (.mk K s ks) A n c B m d := by
 have hq : bD p w ks B 0 := by
  by_cases e : ks = []
  ·subst e; rw [bD]; trivial
  ·exact hk.toQ (hB e)
 obtain ⟨A', n', c', B', m', d', e1, e2, h⟩ := aP.op (show aP p w (.mk K s ks) (.slice A n c) (.slice B m d) from (aP.iff p w _ _ _).2 ⟨⟨hK, hs⟩, ⟨A, n, c, rfl, hn, hnc, hcm, hr, hA⟩, B, m, d, rfl, hm, hmd, hdm, hq⟩);simp only [Value.slice.injEq] at e1 e2;obtain ⟨rfl, rfl, rfl⟩ := e1;obtain ⟨rfl, rfl, rfl⟩ := e2;exact h
theorem ai.flat (p : Nat -> Prop) (w : World) {K : Int} (hK : bI K) : ai p w (.mk K [] []) none 0 0 none 0 0 :=
 ai.make hK (fun x hx => by cases hx) rfl (Nat.le_refl _) (Nat.zero_le _) (.inl rfl) (fun h => absurd rfl h) rfl (Nat.le_refl _) (Nat.zero_le _) (fun i hi => absurd hi (by simp)) fun h => absurd rfl h
end
end Rgx
theorem iq : (Tryz.prog.info? 25).map (fun i => (i.zero, i.size, i.bytes)) = some (some (.agg #[.int .i64 0, .slice none 0 0, .slice none 0 0]), 3, 56) := by kernel_rfl
theorem vD {p : Nat -> Prop} {w : World} {B : Option Addr} {m d size : Nat} {rs : List Rx} (hs : size = 3) (hm : m = rs.length) (h : aU p w rs B) : ∃ xs, aG p w xs rs /\ Src Tryz.prog size 23 (.slice B m d) m xs w := by
 subst hs
 by_cases h0 : m = 0
 ·subst h0;obtain rfl : rs = [] := List.eq_nil_of_length_eq_zero hm.symm;refine ⟨[], aG.nil p w, ?_⟩
  cases B with
  |none => exact Src.ofNil w Tryz.underlying23 d
  |some a => exact Src.ofSlice w Tryz.underlying23 a 0 d [] rfl (fun j u hu => by simp at hu) (fun u hu => by cases hu)
 ·obtain ⟨b, o, rfl⟩ := h.place (by omega);obtain ⟨xs, h1, h2⟩ := h.cells;refine ⟨xs, h1, Src.ofSlice w Tryz.underlying23 _ m d xs (by rw [h1.1, hm]) (fun j u hu => ?_) h1.ones⟩;have ha : (⟨b, o, none⟩ : Addr).add j = ⟨b, o + j, none⟩ := by unfold Addr.add; split <;> simp_all
  rw [ha];exact h2 j u hu
theorem gP {size : Nat} (hs : size = 3) (w : World) (K : Int) (A B : Option Addr) (n c m d : Nat) : Src Tryz.prog size 23 (.slice (some ⟨w.heap.size, 0, none⟩) 1 1) 1 (zV K A n c B m d) (w.alloc (zC K A n c B m d)) := by
 subst hs;refine Src.ofSlice _ Tryz.underlying23 _ 1 1 _ rfl (fun j u hu => ?_) (by simp [Value.oneCell']);have hadd : (⟨w.heap.size, 0, none⟩ : Addr).add j = ⟨w.heap.size, j, none⟩ := by unfold Addr.add; split <;> simp_all
 rw [hadd];exact (aa.at w (zV K A n c B m d) _ 25 _ rfl rfl).cell hu
namespace Rgx
def az (q : Nat -> Prop) (base : Nat) (v : Value) (rs : List Rx) (w : World) : Prop := ∃ xs, aG (fun b => q b /\ some b ≠ v.ownBlock) w xs rs /\ w.ownsRow base 25 3 v rs.length xs
section
variable {q : Nat -> Prop} {base : Nat} {v : Value} {rs : List Rx} {w w' : World}
theorem az.nil (q : Nat -> Prop) (base : Nat) (w : World) : az q base (.slice none 0 0) [] w := ⟨[], aG.nil _ w, rfl, .inl ⟨rfl, rfl⟩⟩
theorem az.below (h : az q base v rs w) (hb : Below w.heap.size w w') : az q base v rs w' := by
 obtain ⟨xs, h1, h2⟩ := h;exact ⟨xs, h1.below hb, dW h2 hb⟩
theorem az.step {xs ys : List Value} {ts : List Rx} {v' : Value} (h1 : aG (fun b => q b /\ some b ≠ v.ownBlock) w xs rs) (h2 : aG (fun b => q b /\ some b ≠ v.ownBlock) w ys ts) (hg : w.grownBy w' v.ownBlock) (hb : v'.ownBlock = v.ownBlock \/ v'.ownBlock = some w.heap.size) (ho : w'.ownsRow base 25 3 v' (rs.length + ts.length) (xs ++ ys)) : az q base v' (rs ++ ts) w' := by
 refine ⟨xs ++ ys, ?_, by rw [List.length_append]; exact ho⟩;have h3 := (h1.app h2).lt;have h4 := h3.keep (W := w') fun b o hp => World.cell?_of_block (hg.block b hp.2 hp.1.2)
 refine h4.mono fun b hp => ⟨hp.1.1, ?_⟩
 rcases hb with e | e
 ·rw [e]; exact hp.1.2
 ·rw [e]; intro e2; have : b = w.heap.size := by simpa using e2
  have := hp.2; omega
theorem az.e (h : az q base v rs w) : ∃ B d, v = .slice B rs.length d /\ rs.length <= d /\ d <= maxLen /\ aU (fun b => q b /\ some b ≠ v.ownBlock) w rs B /\ (rs ≠ [] -> ∃ g, B = some ⟨g, 0, none⟩ /\ base <= g /\ g < w.heap.size) := by
 obtain ⟨xs, h1, h2⟩ := h;obtain ⟨A, c, rfl, hr, hnc, hcm⟩ := Rd.of_own h2;refine ⟨A, c, rfl, hnc, hcm, ?_, fun hne => ?_⟩
 ·rcases hr with e | ⟨b, o, rfl, hc⟩
  ·have : rs = [] := List.eq_nil_of_length_eq_zero (by have := h1.1; rw [e] at this; simp at this; omega);subst this;exact fun i hi => absurd hi (by simp)
  ·exact h1.e hc
 ·rcases h2.2 with ⟨e, e2⟩ | ⟨g, cap, cur, e, hbg, hg, _⟩
  ·exact absurd (List.eq_nil_of_length_eq_zero (by simpa using e2)) hne
  ·simp only [Value.slice.injEq] at e;exact ⟨g, e.1, hbg, (Array.getElem?_eq_some_iff.1 hg).1⟩
theorem az.app {xs ys : List Value} {ts : List Rx} {m : Nat} {v' : Value} {W0 : World} (h1 : aG (fun b => q b /\ some b ≠ v.ownBlock) W0 xs rs) (hbw : Below W0.heap.size W0 w) (h2 : aG (fun b => q b /\ some b ≠ v.ownBlock) w ys ts) (hm : m = ts.length) (hg : w.grownBy w' v.ownBlock) (hb : v'.ownBlock = v.ownBlock \/ v'.ownBlock = some w.heap.size) (ho : w'.ownsRow base 25 3 v' (rs.length + m) (xs ++ ys)) : az q base v' (rs ++ ts) w' := by
 subst hm;exact az.step (h1.below hbw) h2 hg hb ho
end
end Rgx
end
theorem je {S : World -> Prop} {ops : Array Oper} {rest : List Oper} {o : Oper} {a : Act} {Q : Act -> Prop} (hw : Region.wanted o (yielded ops a.tmps) = true) (x : Operand) (ho : o.op = .load 25 x)
  (g q : Nat) (hx : a.eval x = .pointer (some ⟨g, q, none⟩)) (K : Int) (A B : Option Addr) (n c m d : Nat) (hc : ∀ p : Wo S, p.wo.rangeAt g q (zV K A n c B m d))
  (h : wpQuiet Tryz.prog ops (fun w' => ∃ p : Wo S, w' = p.wo) Q rest (a.put o.dst (.agg #[.int .i64 K, .slice A n c, .slice B m d]))) : wpQuiet Tryz.prog ops (fun w' => ∃ p : Wo S, w' = p.wo) Q (o :: rest) a :=
 BigFrame.wpQuiet_want hw fun K' hK => ⟨_, fun w hp => by
  obtain ⟨p, rfl⟩ := hp;unfold Oper.quietAt execOp;simp only [ho, hx, Instr.loadAt, Instr.sureAddr, Sem.run_bind, Sem.run_pure, Result.andThen_ok, run_loadVar_mid p.wo g q 25 _ _ (hc p) Tryz.underlying25 rfl au];exact ⟨rfl, rfl⟩, hK _ h⟩
theorem lM (A : Option Addr) (n c : Nat) (w : World) : Calls Tryz.prog 55 #[.slice A n c] w fun e w' => e = .returned (.agg #[.int .i64 2, .slice A n c, .slice none 0 0]) /\ Below w.heap.size w w' := by
 go_enter Tryz.func55, Tryz.ntmps55;go_wp2_with fail;exact bM rfl w.heap.size rfl (C := (zV 2 A n c none 0 0)) (T := 25) (aa.at w _ _ 25 _ rfl rfl) _ Tryz.underlying25 rfl au rfl ⟨rfl, ag _ _⟩
theorem iB (K : Int) (B : Option Addr) (m d : Nat) (w : World) : Calls Tryz.prog 40 #[.int .i64 K, .slice B m d] w fun e w' => e = .returned (.agg #[.int .i64 K, .slice none 0 0, .slice B m d]) /\ Below w.heap.size w w' := by
 go_enter Tryz.func40, Tryz.ntmps40;go_wp2_with fail;exact bM rfl w.heap.size rfl (C := (zV K none 0 0 B m d)) (T := 25) (aa.at w _ _ 25 _ rfl rfl) _ Tryz.underlying25 rfl au rfl ⟨rfl, ag _ _⟩
section
variable {w W : World} {K K2 : Int} {A B A2 B2 : Option Addr} {n c m d n2 c2 m2 d2 : Nat}
theorem gL (hb : Below ((w.alloc (zC K A n c B m d)).alloc (zC K2 A2 n2 c2 B2 m2 d2)).heap.size ((w.alloc (zC K A n c B m d)).alloc (zC K2 A2 n2 c2 B2 m2 d2)) W) (j : Nat) (v : Value) (hv : [Value.int .i64 K, .slice A n c, .slice B m d][j]? = some v) : W.cell? ⟨w.heap.size, j, none⟩ = some v :=
 iX (ae (ag _ _) hb) j v hv
theorem gI (hb : Below ((w.alloc (zC K A n c B m d)).alloc (zC K2 A2 n2 c2 B2 m2 d2)).heap.size ((w.alloc (zC K A n c B m d)).alloc (zC K2 A2 n2 c2 B2 m2 d2)) W) (j : Nat) (v : Value) (hv : [Value.int .i64 K2, .slice A2 n2 c2, .slice B2 m2 d2][j]? = some v) : W.cell? ⟨w.heap.size + 1, j, none⟩ = some v := by
 have h := iX hb j v hv
 rwa [show (w.alloc (zC K A n c B m d)).heap.size = w.heap.size + 1 by simp] at h
theorem iD (hb : Below ((w.alloc (zC K A n c B m d)).alloc (zC K2 A2 n2 c2 B2 m2 d2)).heap.size ((w.alloc (zC K A n c B m d)).alloc (zC K2 A2 n2 c2 B2 m2 d2)) W) : Below w.heap.size w W := ae (aB (ag _ _) _) hb
end
theorem zN : ∀ (z : Nat) (r t : Rx), SizeOf.sizeOf r <= z -> ∀ (R : Int), R = aW r t -> ∀ (A B A2 B2 : Option Addr) (n c m d n2 c2 m2 d2 : Nat) (w : World), aC w r A n c B m d -> aC w t A2 n2 c2 B2 m2 d2 -> Calls Tryz.prog 49 #[.agg #[.int .i64 r.kind, .slice A n c, .slice B m d], .agg #[.int .i64 t.kind, .slice A2 n2 c2, .slice B2 m2 d2]] w (jO w R) := by
 intro z
 induction z with
 |zero => intro r t hz; exact absurd hz (by cases r; rw [Rx.mk.sizeOf_spec]; omega)
 |succ z ih =>
  intro r t hz R hR A B A2 B2 n c m d n2 c2 m2 d2 w hop hop2;have HIH : Hid (∀ i, i < m -> ∀ (x : Rx) (A B A2 B2 : Option Addr) (n c k d n2 c2 m2 d2 : Nat) (W : World), aC W (dL r i) A n c B k d -> aC W x A2 n2 c2 B2 m2 d2 -> Calls Tryz.prog 49 #[.agg #[.int .i64 (dL r i).kind, .slice A n c, .slice B k d], .agg #[.int .i64 x.kind, .slice A2 n2 c2, .slice B2 m2 d2]] W (jO W (aW (dL r i) x))) := Lh fun i hi x A B A2 B2 n c k d n2 c2 m2 d2 W h h2 => ih (dL r i) x (by have := gB (GM (r := r) (by rw [<- hop.mlen]; exact hi)); omega) _ rfl A B A2 B2 n c k d n2 c2 m2 d2 W h h2
  have HOP : Hid (aC w r A n c B m d /\ aC w t A2 n2 c2 B2 m2 d2) := Lh ⟨hop, hop2⟩;obtain ⟨K, hK⟩ : ∃ K, K = r.kind := ⟨_, rfl⟩;obtain ⟨K2, hK2⟩ : ∃ K, K = t.kind := ⟨_, rfl⟩;obtain ⟨T1, hT1⟩ : ∃ T, T = if aQ K K2 ≠ 0 then aQ K K2 else bB r.syms t.syms := ⟨_, rfl⟩
  have HT : Hid (T1 = (if aQ K K2 ≠ 0 then aQ K K2 else bB r.syms t.syms) /\ R = if T1 ≠ 0 then T1 else cmpL r.kids t.kids) := Lh ⟨hT1, by
   rw [hR, qH, hT1, hK, hK2]
   by_cases h : aQ r.kind t.kind ≠ 0
   ·rw [if_pos h, if_pos h, if_pos h]
   ·rw [if_neg h, if_neg h]⟩
  have HOR : Hid (∀ (a b : Int) W, Calls Tryz.prog 80 #[.int .i64 a, .int .i64 b] W (jO W (aQ a b))) := Lh zY;have hnc2 : n2 <= c2 := hop2.ncap;have hcm2 : c2 <= 9223372036854775807 := hop2.cmax;have hmd2 : m2 <= d2 := hop2.mcap;have hdm2 : d2 <= 9223372036854775807 := hop2.dmax;rw [<- hK, <- hK2];clear hR hop hop2 ih hz hK hK2 hT1;go_enter Tryz.func49, Tryz.ntmps49
  go_upto_block 0 with ((with_reducible refine (HOR.out _ _ _).mono ?_); rintro e w1 hp; obtain ⟨rfl, hb⟩ := kG hp; have H1 : Hid (Below ((w.alloc (zC K A n c B m d)).alloc (zC K2 A2 n2 c2 B2 m2 d2)).heap.size ((w.alloc (zC K A n c B m d)).alloc (zC K2 A2 n2 c2 B2 m2 d2)) w1) := Lh hb; clear hp hb)
  go_cut [5, 6] from 13 to 41 (fun s5 s6 wx => ∃ (x : Int) (i : Int), s5 = .int .i64 x /\ s6 = .int .i64 i /\ Hid (((x ≠ 0 /\ T1 = x) \/ (x = 0 /\ T1 = aQ (n : Int) (n2 : Int))) /\ Below ((w.alloc (zC K A n c B m d)).alloc (zC K2 A2 n2 c2 B2 m2 d2)).heap.size ((w.alloc (zC K A n c B m d)).alloc (zC K2 A2 n2 c2 B2 m2 d2)) wx))
  case first =>
   go_wp2_with fail
   go_loopg [5, 6] n (fun g s5 s6 wr => ∃ (i : Nat) (x : Int), i + g = n /\ i <= n2 /\ s5 = .int .i64 x /\ s6 = .int .i64 (i : Int) /\ Hid (((x ≠ 0 /\ T1 = x) \/ (x = 0 /\ T1 = bB (r.syms.drop i) (t.syms.drop i))) /\ Below ((w.alloc (zC K A n c B m d)).alloc (zC K2 A2 n2 c2 B2 m2 d2)).heap.size ((w.alloc (zC K A n c B m d)).alloc (zC K2 A2 n2 c2 B2 m2 d2)) wr))
   case atStart =>
    exact ⟨0, _, by omega, by omega, rfl, rfl, Lh ⟨by
     rw [HT.out.1]
     by_cases e : aQ K K2 = 0
     ·exact .inr ⟨e, by rw [if_neg (by simpa using e)]; rfl⟩
     ·exact .inl ⟨e, by rw [if_pos e]⟩, H1.out⟩⟩
   case round =>
    obtain ⟨i, x, hi, hi2, rfl, rfl, HI⟩ := hrel;have ca1 : wr.cell? ⟨w.heap.size, 1, none⟩ = some (.slice A n c) := gL HI.out.2 1 _ rfl;have ca2 : wr.cell? ⟨w.heap.size, 2, none⟩ = some (.slice B m d) := gL HI.out.2 2 _ rfl;have cb1 : wr.cell? ⟨w.heap.size + 1, 1, none⟩ = some (.slice A2 n2 c2) := gI HI.out.2 1 _ rfl;have cb2 : wr.cell? ⟨w.heap.size + 1, 2, none⟩ = some (.slice B2 m2 d2) := gI HI.out.2 2 _ rfl
    by_cases h1 : i < n
    ·by_cases h2 : i < n2
     ·have en1 : decide ((i : Int) < (n : Int)) = true := dT (by omega)
      by_cases hx : x = 0
      ·skip
       obtain ⟨g, rfl⟩ : ∃ g, gk = g + 1 := ⟨gk - 1, by omega⟩;have z1 : (x == 0) = true := bT hx;have hs1 : i < r.syms.length := by rw [<- HOP.out.1.nlen]; exact h1
       have hs2 : i < t.syms.length := by rw [<- HOP.out.2.nlen]; exact h2
       obtain ⟨b, o, rfl, hil⟩ := mh HOP.out.1.syms (by intro e; rw [e] at hs1; simp at hs1);obtain ⟨b2, o2, rfl, hil2⟩ := mh HOP.out.2.syms (by intro e; rw [e] at hs2; simp at hs2);obtain ⟨u, hu⟩ : ∃ u, u = r.syms.getD i 0 := ⟨_, rfl⟩;obtain ⟨v, hv⟩ : ∃ u, u = t.syms.getD i 0 := ⟨_, rfl⟩;have HBW : Hid (Below w.heap.size w wr) := Lh (iD HI.out.2);have HBS : Hid (Below wr.heap.size wr wr) := Lh (Below.refl _ _);have l1 : ∀ p : Wo (Below wr.heap.size wr), p.wo.cell? ⟨b, o + i, none⟩ = some (.int .i64 u) := fun p => hil.at (ae HBW.out p.ok) hs1 hu
       have l2 : ∀ p : Wo (Below wr.heap.size wr), p.wo.cell? ⟨b2, o2 + i, none⟩ = some (.int .i64 v) := fun p => hil2.at (ae HBW.out p.ok) hs2 hv
       have l3 : ∀ p : Wo (Below wr.heap.size wr), p.wo.cell? ⟨w.heap.size, 1, none⟩ = some (.slice (some ⟨b, o, none⟩) n c) := fun p => gL (ae HI.out.2 p.ok) 1 _ rfl
       have l4 : ∀ p : Wo (Below wr.heap.size wr), p.wo.cell? ⟨w.heap.size + 1, 1, none⟩ = some (.slice (some ⟨b2, o2, none⟩) n2 c2) := fun p => gI (ae HI.out.2 p.ok) 1 _ rfl
       obtain ⟨y, hy⟩ : ∃ y, y = aQ u v := ⟨_, rfl⟩;have HOX : Hid (∀ W, Below wr.heap.size wr W -> Calls Tryz.prog 80 #[.int .i64 u, .int .i64 v] W fun e w' => e = .returned (.int .i64 y) /\ Below wr.heap.size wr w') := Lh fun W hb => (HOR.out u v W).mono fun e w' hp => ⟨by rw [hy]; exact hp.1, ae hb hp.2⟩
       have HY : Hid ((y ≠ 0 /\ T1 = y) \/ (y = 0 /\ T1 = bB (r.syms.drop (i + 1)) (t.syms.drop (i + 1)))) := Lh (by
        have h3 : T1 = bB (r.syms.drop i) (t.syms.drop i) := by
         rcases HI.out.1 with h | h
         ·exact absurd hx h.1
         ·exact h.2
        rw [vB hs1 hs2, <- hu, <- hv, <- hy] at h3
        by_cases e : y ≠ 0
        ·exact .inl ⟨e, by rw [h3, if_pos e]⟩
        ·exact .inr ⟨by simpa using e, by rw [h3, if_neg e]⟩)
       clear hil hil2 hu hv hy hs1 hs2;go_wp2_with fail;haveI : Nonempty (Wo (Below wr.heap.size wr)) := ⟨⟨wr, HBS.out⟩⟩;refine iR (Below wr.heap.size wr) jc (by kernel_rfl) (below_drewN HBS.out 1) ?_
       repeat (go_big_quiet_step ((go_at_call 80; exact lh HOX.out _)))
       refine wpQuiet_nil ?_;intro x1 hw2;obtain ⟨⟨x1x, hok⟩, hw3⟩ := hw2;have hw4 : x1 = x1x := hw3;subst hw4;have Hx1 := Lh hok;clear hw3 hok;go_wp2_with fail
       go_roundg g
       case rel => exact ⟨i + 1, y, by omega, by omega, rfl, by go_num, Lh ⟨HY.out, ae HI.out.2 Hx1.out⟩⟩
       case measure => omega
      ·skip
       have z1 : (x == 0) = false := bF hx;have HE : Hid ((x ≠ 0 /\ T1 = x) \/ (x = 0 /\ T1 = aQ (n : Int) (n2 : Int))) := Lh (by
        rcases HI.out.1 with h | h
        ·exact .inl h
        ·exact absurd h.1 hx)
       go_wp2_with fail
       go_meet
       exact ⟨x, (i : Int), rfl, rfl, Lh ⟨HE.out, HI.out.2⟩⟩
     ·skip
      have en1 : decide ((i : Int) < (n : Int)) = true := dT (by omega);have HE : Hid ((x ≠ 0 /\ T1 = x) \/ (x = 0 /\ T1 = aQ (n : Int) (n2 : Int))) := Lh (by
       rcases HI.out.1 with h | h
       ·exact .inl h
       ·refine .inr ⟨h.1, ?_⟩;rw [h.2, pQ (.inr (by rw [<- HOP.out.2.nlen]; omega)) (by first | (rw [<- HOP.out.1.nlen]; omega) | (rw [<- HOP.out.1.mlen]; omega)) (by first | (rw [<- HOP.out.2.nlen]; omega) | (rw [<- HOP.out.2.mlen]; omega)), <- HOP.out.1.nlen, <- HOP.out.2.nlen])
      go_wp2_with fail
      go_meet
      exact ⟨x, (i : Int), rfl, rfl, Lh ⟨HE.out, HI.out.2⟩⟩
    ·skip
     have en1 : decide ((i : Int) < (n : Int)) = false := dF (by omega);have HE : Hid ((x ≠ 0 /\ T1 = x) \/ (x = 0 /\ T1 = aQ (n : Int) (n2 : Int))) := Lh (by
      rcases HI.out.1 with h | h
      ·exact .inl h
      ·refine .inr ⟨h.1, ?_⟩;rw [h.2, pQ (.inl (by rw [<- HOP.out.1.nlen]; omega)) (by first | (rw [<- HOP.out.1.nlen]; omega) | (rw [<- HOP.out.1.mlen]; omega)) (by first | (rw [<- HOP.out.2.nlen]; omega) | (rw [<- HOP.out.2.mlen]; omega)), <- HOP.out.1.nlen, <- HOP.out.2.nlen])
     go_wp2_with fail
     go_meet
     exact ⟨x, (i : Int), rfl, rfl, Lh ⟨HE.out, HI.out.2⟩⟩
  case rest =>
   obtain ⟨x, i, rfl, rfl, HX⟩ := hcut;have ca1 : wc.cell? ⟨w.heap.size, 1, none⟩ = some (.slice A n c) := gL HX.out.2 1 _ rfl;have ca2 : wc.cell? ⟨w.heap.size, 2, none⟩ = some (.slice B m d) := gL HX.out.2 2 _ rfl;have cb1 : wc.cell? ⟨w.heap.size + 1, 1, none⟩ = some (.slice A2 n2 c2) := gI HX.out.2 1 _ rfl;have cb2 : wc.cell? ⟨w.heap.size + 1, 2, none⟩ = some (.slice B2 m2 d2) := gI HX.out.2 2 _ rfl
   by_cases hx : x = 0
   ·skip
    have z1 : (x == 0) = true := bT hx;have HT1 : Hid (T1 = aQ (n : Int) (n2 : Int)) := Lh (by
     rcases HX.out.1 with h | h
     ·exact absurd hx h.1
     ·exact h.2)
    go_wp2_with ((with_reducible refine (HOR.out _ _ _).mono ?_); rintro e w2 hp; obtain ⟨rfl, hb⟩ := kG hp; have H2 : Hid (Below ((w.alloc (zC K A n c B m d)).alloc (zC K2 A2 n2 c2 B2 m2 d2)).heap.size ((w.alloc (zC K A n c B m d)).alloc (zC K2 A2 n2 c2 B2 m2 d2)) w2) := Lh (ae HX.out.2 hb); clear hp hb)
    go_loopg [5, 7] m (fun g s5 s7 wr => ∃ (i : Nat) (x : Int), i + g = m /\ i <= m2 /\ s5 = .int .i64 x /\ s7 = .int .i64 (i : Int) /\ Hid (((x ≠ 0 /\ R = x) \/ (x = 0 /\ R = cmpL (r.kids.drop i) (t.kids.drop i))) /\ Below ((w.alloc (zC K A n c B m d)).alloc (zC K2 A2 n2 c2 B2 m2 d2)).heap.size ((w.alloc (zC K A n c B m d)).alloc (zC K2 A2 n2 c2 B2 m2 d2)) wr))
    case atStart =>
     exact ⟨0, _, by omega, by omega, rfl, rfl, Lh ⟨by
      have h1 := HT.out.2;rw [HT1.out] at h1
      by_cases e : aQ (n : Int) (n2 : Int) = 0
      ·exact .inr ⟨e, by rw [h1, if_neg (by simpa using e)]; rfl⟩
      ·exact .inl ⟨e, by rw [h1, if_pos e]⟩, H2.out⟩⟩
    case round =>
     obtain ⟨i, x, hi, hi2, rfl, rfl, HI⟩ := hrel;have ca1 : wr.cell? ⟨w.heap.size, 1, none⟩ = some (.slice A n c) := gL HI.out.2 1 _ rfl;have ca2 : wr.cell? ⟨w.heap.size, 2, none⟩ = some (.slice B m d) := gL HI.out.2 2 _ rfl;have cb1 : wr.cell? ⟨w.heap.size + 1, 1, none⟩ = some (.slice A2 n2 c2) := gI HI.out.2 1 _ rfl;have cb2 : wr.cell? ⟨w.heap.size + 1, 2, none⟩ = some (.slice B2 m2 d2) := gI HI.out.2 2 _ rfl
     by_cases h1 : i < m
     ·by_cases h2 : i < m2
      ·have em1 : decide ((i : Int) < (m : Int)) = true := dT (by omega)
       by_cases hx : x = 0
       ·skip
        obtain ⟨g, rfl⟩ : ∃ g, gk = g + 1 := ⟨gk - 1, by omega⟩;have z1 : (x == 0) = true := bT hx;obtain ⟨b, o, hpl⟩ := HOP.out.1.place;obtain rfl : B = some ⟨b, o, none⟩ := by
         rcases hpl with h | h
         ·omega
         ·exact h
        obtain ⟨b2, o2, hpl2⟩ := HOP.out.2.place;obtain rfl : B2 = some ⟨b2, o2, none⟩ := by
         rcases hpl2 with h | h
         ·omega
         ·exact h
        obtain ⟨Ak, nk, ck, Bk, mk, dk, hrg, hok⟩ := HOP.out.1.kid h1;obtain ⟨Al, nl, cl, Bl, ml, dl, hrg2, hok2⟩ := HOP.out.2.kid h2;have HBW : Hid (Below w.heap.size w wr) := Lh (iD HI.out.2);have HBS : Hid (Below wr.heap.size wr wr) := Lh (Below.refl _ _);have HRG1 : Hid (∀ p : Wo (Below wr.heap.size wr), p.wo.rangeAt b (o + i * 3) [.int .i64 (dL r i).kind, .slice Ak nk ck, .slice Bk mk dk]) := Lh fun p j v hv => ((ae HBW.out p.ok).cell (p := ⟨b, o + i * 3 + j, none⟩) (World.block_lt_of_cell? w _ (hrg j v hv))).trans (hrg j v hv)
        have HRG2 : Hid (∀ p : Wo (Below wr.heap.size wr), p.wo.rangeAt b2 (o2 + i * 3) [.int .i64 (dL t i).kind, .slice Al nl cl, .slice Bl ml dl]) := Lh fun p j v hv => ((ae HBW.out p.ok).cell (p := ⟨b2, o2 + i * 3 + j, none⟩) (World.block_lt_of_cell? w _ (hrg2 j v hv))).trans (hrg2 j v hv)
        have l3 : ∀ p : Wo (Below wr.heap.size wr), p.wo.cell? ⟨w.heap.size, 2, none⟩ = some (.slice (some ⟨b, o, none⟩) m d) := fun p => gL (ae HI.out.2 p.ok) 2 _ rfl
        have l4 : ∀ p : Wo (Below wr.heap.size wr), p.wo.cell? ⟨w.heap.size + 1, 2, none⟩ = some (.slice (some ⟨b2, o2, none⟩) m2 d2) := fun p => gI (ae HI.out.2 p.ok) 2 _ rfl
        obtain ⟨y, hy⟩ : ∃ y, y = aW (dL r i) (dL t i) := ⟨_, rfl⟩;have HOX : Hid (∀ W, Below wr.heap.size wr W -> Calls Tryz.prog 49 #[.agg #[.int .i64 (dL r i).kind, .slice Ak nk ck, .slice Bk mk dk], .agg #[.int .i64 (dL t i).kind, .slice Al nl cl, .slice Bl ml dl]] W fun e w' => e = .returned (.int .i64 y) /\ Below wr.heap.size wr w') := Lh fun W hb => (HIH.out i h1 (dL t i) _ _ _ _ _ _ _ _ _ _ _ _ W (hok.below (ae HBW.out hb)) (hok2.below (ae HBW.out hb))).mono fun e w' hp => ⟨by rw [hy]; exact hp.1, ae hb hp.2⟩
        have HY : Hid ((y ≠ 0 /\ R = y) \/ (y = 0 /\ R = cmpL (r.kids.drop (i + 1)) (t.kids.drop (i + 1)))) := Lh (by
         have hs1 : i < r.kids.length := by rw [<- HOP.out.1.mlen]; exact h1
         have hs2 : i < t.kids.length := by rw [<- HOP.out.2.mlen]; exact h2
         have h3 : R = cmpL (r.kids.drop i) (t.kids.drop i) := by
          rcases HI.out.1 with h | h
          ·exact absurd hx h.1
          ·exact h.2
         rw [tK hs1 hs2, <- oW hs1, <- oW hs2, <- hy] at h3
         by_cases e : y ≠ 0
         ·exact .inl ⟨e, by rw [h3, if_pos e]⟩
         ·exact .inr ⟨by simpa using e, by rw [h3, if_neg e]⟩)
        clear hpl hpl2 hrg hrg2 hok hok2 hy;go_wp2_with fail;haveI : Nonempty (Wo (Below wr.heap.size wr)) := ⟨⟨wr, HBS.out⟩⟩;refine iR (Below wr.heap.size wr) jc (by kernel_rfl) (below_drewN HBS.out 1) ?_
        iterate 4 (go_big_quiet_step (fail))
        refine je rfl (.tmp 72) rfl b (o + i * 3) rfl _ Ak Bk nk ck mk dk HRG1.out ?_;try simp only [Act.put, pP]
        iterate 4 (go_big_quiet_step (fail))
        refine je rfl (.tmp 77) rfl b2 (o2 + i * 3) rfl _ Al Bl nl cl ml dl HRG2.out ?_;try simp only [Act.put, pP]
        repeat (go_big_quiet_step ((go_at_call 49; exact lh HOX.out _)))
        refine wpQuiet_nil ?_;intro x1 hw2;obtain ⟨⟨x1x, hok⟩, hw3⟩ := hw2;have hw4 : x1 = x1x := hw3;subst hw4;have Hx1 := Lh hok;clear hw3 hok;go_wp2_with fail
        go_roundg g
        case rel => exact ⟨i + 1, y, by omega, by omega, rfl, by go_num, Lh ⟨HY.out, ae HI.out.2 Hx1.out⟩⟩
        case measure => omega
       ·skip
        have z1 : (x == 0) = false := bF hx;have HRX : Hid (R = x) := Lh (by
         rcases HI.out.1 with h | h
         ·exact h.2
         ·exact absurd h.1 hx)
        go_wp2_with fail;go_ret;exact ⟨HRX.out ▸ rfl, iD HI.out.2⟩
      ·skip
       have em1 : decide ((i : Int) < (m : Int)) = true := dT (by omega);have HE : Hid ((x ≠ 0 /\ R = x) \/ (x = 0 /\ R = aQ (m : Int) (m2 : Int))) := Lh (by
        rcases HI.out.1 with h | h
        ·exact .inl h
        ·refine .inr ⟨h.1, ?_⟩;rw [h.2, lH (.inr (by rw [<- HOP.out.2.mlen]; omega)) (by first | (rw [<- HOP.out.1.nlen]; omega) | (rw [<- HOP.out.1.mlen]; omega)) (by first | (rw [<- HOP.out.2.nlen]; omega) | (rw [<- HOP.out.2.mlen]; omega)), <- HOP.out.1.mlen, <- HOP.out.2.mlen])
       by_cases hx : x = 0
       ·skip
        have z1 : (x == 0) = true := bT hx;have HRO : Hid (R = aQ (m : Int) (m2 : Int)) := Lh (by
         rcases HE.out with h | h
         ·exact absurd hx h.1
         ·exact h.2)
        go_wp2_with ((with_reducible refine (HOR.out _ _ _).mono ?_); rintro e w2 hp; obtain ⟨rfl, hb⟩ := kG hp; have H2 : Hid (Below w.heap.size w w2) := Lh (ae (iD HI.out.2) hb); clear hp hb)
        go_ret;exact ⟨HRO.out ▸ rfl, H2.out⟩
       ·skip
        have z1 : (x == 0) = false := bF hx;have HRX : Hid (R = x) := Lh (by
         rcases HI.out.1 with h | h
         ·exact h.2
         ·exact absurd h.1 hx)
        go_wp2_with fail;go_ret;exact ⟨HRX.out ▸ rfl, iD HI.out.2⟩
     ·skip
      have em1 : decide ((i : Int) < (m : Int)) = false := dF (by omega);have HE : Hid ((x ≠ 0 /\ R = x) \/ (x = 0 /\ R = aQ (m : Int) (m2 : Int))) := Lh (by
       rcases HI.out.1 with h | h
       ·exact .inl h
       ·refine .inr ⟨h.1, ?_⟩;rw [h.2, lH (.inl (by rw [<- HOP.out.1.mlen]; omega)) (by first | (rw [<- HOP.out.1.nlen]; omega) | (rw [<- HOP.out.1.mlen]; omega)) (by first | (rw [<- HOP.out.2.nlen]; omega) | (rw [<- HOP.out.2.mlen]; omega)), <- HOP.out.1.mlen, <- HOP.out.2.mlen])
      by_cases hx : x = 0
      ·skip
       have z1 : (x == 0) = true := bT hx;have HRO : Hid (R = aQ (m : Int) (m2 : Int)) := Lh (by
        rcases HE.out with h | h
        ·exact absurd hx h.1
        ·exact h.2)
       go_wp2_with ((with_reducible refine (HOR.out _ _ _).mono ?_); rintro e w2 hp; obtain ⟨rfl, hb⟩ := kG hp; have H2 : Hid (Below w.heap.size w w2) := Lh (ae (iD HI.out.2) hb); clear hp hb)
       go_ret;exact ⟨HRO.out ▸ rfl, H2.out⟩
      ·skip
       have z1 : (x == 0) = false := bF hx;have HRX : Hid (R = x) := Lh (by
        rcases HI.out.1 with h | h
        ·exact h.2
        ·exact absurd h.1 hx)
       go_wp2_with fail;go_ret;exact ⟨HRX.out ▸ rfl, iD HI.out.2⟩
   ·skip
    have z1 : (x == 0) = false := bF hx;have HT1 : Hid (T1 = x) := Lh (by
     rcases HX.out.1 with h | h
     ·exact h.2
     ·exact absurd h.1 hx)
    go_wp2_with fail
    go_loopg [5, 7] m (fun g s5 s7 wr => ∃ (i : Nat) (x : Int), i + g = m /\ i <= m2 /\ s5 = .int .i64 x /\ s7 = .int .i64 (i : Int) /\ Hid (((x ≠ 0 /\ R = x) \/ (x = 0 /\ R = cmpL (r.kids.drop i) (t.kids.drop i))) /\ Below ((w.alloc (zC K A n c B m d)).alloc (zC K2 A2 n2 c2 B2 m2 d2)).heap.size ((w.alloc (zC K A n c B m d)).alloc (zC K2 A2 n2 c2 B2 m2 d2)) wr))
    case atStart =>
     exact ⟨0, _, by omega, by omega, rfl, rfl, Lh ⟨by
      have h1 := HT.out.2;rw [HT1.out] at h1;exact .inl ⟨hx, by rw [h1, if_pos hx]⟩, HX.out.2⟩⟩
    case round =>
     obtain ⟨i, x, hi, hi2, rfl, rfl, HI⟩ := hrel;have ca1 : wr.cell? ⟨w.heap.size, 1, none⟩ = some (.slice A n c) := gL HI.out.2 1 _ rfl;have ca2 : wr.cell? ⟨w.heap.size, 2, none⟩ = some (.slice B m d) := gL HI.out.2 2 _ rfl;have cb1 : wr.cell? ⟨w.heap.size + 1, 1, none⟩ = some (.slice A2 n2 c2) := gI HI.out.2 1 _ rfl;have cb2 : wr.cell? ⟨w.heap.size + 1, 2, none⟩ = some (.slice B2 m2 d2) := gI HI.out.2 2 _ rfl
     by_cases h1 : i < m
     ·by_cases h2 : i < m2
      ·have em1 : decide ((i : Int) < (m : Int)) = true := dT (by omega)
       by_cases hx : x = 0
       ·skip
        obtain ⟨g, rfl⟩ : ∃ g, gk = g + 1 := ⟨gk - 1, by omega⟩;have z1 : (x == 0) = true := bT hx;obtain ⟨b, o, hpl⟩ := HOP.out.1.place;obtain rfl : B = some ⟨b, o, none⟩ := by
         rcases hpl with h | h
         ·omega
         ·exact h
        obtain ⟨b2, o2, hpl2⟩ := HOP.out.2.place;obtain rfl : B2 = some ⟨b2, o2, none⟩ := by
         rcases hpl2 with h | h
         ·omega
         ·exact h
        obtain ⟨Ak, nk, ck, Bk, mk, dk, hrg, hok⟩ := HOP.out.1.kid h1;obtain ⟨Al, nl, cl, Bl, ml, dl, hrg2, hok2⟩ := HOP.out.2.kid h2;have HBW : Hid (Below w.heap.size w wr) := Lh (iD HI.out.2);have HBS : Hid (Below wr.heap.size wr wr) := Lh (Below.refl _ _);have HRG1 : Hid (∀ p : Wo (Below wr.heap.size wr), p.wo.rangeAt b (o + i * 3) [.int .i64 (dL r i).kind, .slice Ak nk ck, .slice Bk mk dk]) := Lh fun p j v hv => ((ae HBW.out p.ok).cell (p := ⟨b, o + i * 3 + j, none⟩) (World.block_lt_of_cell? w _ (hrg j v hv))).trans (hrg j v hv)
        have HRG2 : Hid (∀ p : Wo (Below wr.heap.size wr), p.wo.rangeAt b2 (o2 + i * 3) [.int .i64 (dL t i).kind, .slice Al nl cl, .slice Bl ml dl]) := Lh fun p j v hv => ((ae HBW.out p.ok).cell (p := ⟨b2, o2 + i * 3 + j, none⟩) (World.block_lt_of_cell? w _ (hrg2 j v hv))).trans (hrg2 j v hv)
        have l3 : ∀ p : Wo (Below wr.heap.size wr), p.wo.cell? ⟨w.heap.size, 2, none⟩ = some (.slice (some ⟨b, o, none⟩) m d) := fun p => gL (ae HI.out.2 p.ok) 2 _ rfl
        have l4 : ∀ p : Wo (Below wr.heap.size wr), p.wo.cell? ⟨w.heap.size + 1, 2, none⟩ = some (.slice (some ⟨b2, o2, none⟩) m2 d2) := fun p => gI (ae HI.out.2 p.ok) 2 _ rfl
        obtain ⟨y, hy⟩ : ∃ y, y = aW (dL r i) (dL t i) := ⟨_, rfl⟩;have HOX : Hid (∀ W, Below wr.heap.size wr W -> Calls Tryz.prog 49 #[.agg #[.int .i64 (dL r i).kind, .slice Ak nk ck, .slice Bk mk dk], .agg #[.int .i64 (dL t i).kind, .slice Al nl cl, .slice Bl ml dl]] W fun e w' => e = .returned (.int .i64 y) /\ Below wr.heap.size wr w') := Lh fun W hb => (HIH.out i h1 (dL t i) _ _ _ _ _ _ _ _ _ _ _ _ W (hok.below (ae HBW.out hb)) (hok2.below (ae HBW.out hb))).mono fun e w' hp => ⟨by rw [hy]; exact hp.1, ae hb hp.2⟩
        have HY : Hid ((y ≠ 0 /\ R = y) \/ (y = 0 /\ R = cmpL (r.kids.drop (i + 1)) (t.kids.drop (i + 1)))) := Lh (by
         have hs1 : i < r.kids.length := by rw [<- HOP.out.1.mlen]; exact h1
         have hs2 : i < t.kids.length := by rw [<- HOP.out.2.mlen]; exact h2
         have h3 : R = cmpL (r.kids.drop i) (t.kids.drop i) := by
          rcases HI.out.1 with h | h
          ·exact absurd hx h.1
          ·exact h.2
         rw [tK hs1 hs2, <- oW hs1, <- oW hs2, <- hy] at h3
         by_cases e : y ≠ 0
         ·exact .inl ⟨e, by rw [h3, if_pos e]⟩
         ·exact .inr ⟨by simpa using e, by rw [h3, if_neg e]⟩)
        clear hpl hpl2 hrg hrg2 hok hok2 hy;go_wp2_with fail;haveI : Nonempty (Wo (Below wr.heap.size wr)) := ⟨⟨wr, HBS.out⟩⟩;refine iR (Below wr.heap.size wr) jc (by kernel_rfl) (below_drewN HBS.out 1) ?_
        iterate 4 (go_big_quiet_step (fail))
        refine je rfl (.tmp 72) rfl b (o + i * 3) rfl _ Ak Bk nk ck mk dk HRG1.out ?_;try simp only [Act.put, pP]
        iterate 4 (go_big_quiet_step (fail))
        refine je rfl (.tmp 77) rfl b2 (o2 + i * 3) rfl _ Al Bl nl cl ml dl HRG2.out ?_;try simp only [Act.put, pP]
        repeat (go_big_quiet_step ((go_at_call 49; exact lh HOX.out _)))
        refine wpQuiet_nil ?_;intro x1 hw2;obtain ⟨⟨x1x, hok⟩, hw3⟩ := hw2;have hw4 : x1 = x1x := hw3;subst hw4;have Hx1 := Lh hok;clear hw3 hok;go_wp2_with fail
        go_roundg g
        case rel => exact ⟨i + 1, y, by omega, by omega, rfl, by go_num, Lh ⟨HY.out, ae HI.out.2 Hx1.out⟩⟩
        case measure => omega
       ·skip
        have z1 : (x == 0) = false := bF hx;have HRX : Hid (R = x) := Lh (by
         rcases HI.out.1 with h | h
         ·exact h.2
         ·exact absurd h.1 hx)
        go_wp2_with fail;go_ret;exact ⟨HRX.out ▸ rfl, iD HI.out.2⟩
      ·skip
       have em1 : decide ((i : Int) < (m : Int)) = true := dT (by omega);have HE : Hid ((x ≠ 0 /\ R = x) \/ (x = 0 /\ R = aQ (m : Int) (m2 : Int))) := Lh (by
        rcases HI.out.1 with h | h
        ·exact .inl h
        ·refine .inr ⟨h.1, ?_⟩;rw [h.2, lH (.inr (by rw [<- HOP.out.2.mlen]; omega)) (by first | (rw [<- HOP.out.1.nlen]; omega) | (rw [<- HOP.out.1.mlen]; omega)) (by first | (rw [<- HOP.out.2.nlen]; omega) | (rw [<- HOP.out.2.mlen]; omega)), <- HOP.out.1.mlen, <- HOP.out.2.mlen])
       by_cases hx : x = 0
       ·skip
        have z1 : (x == 0) = true := bT hx;have HRO : Hid (R = aQ (m : Int) (m2 : Int)) := Lh (by
         rcases HE.out with h | h
         ·exact absurd hx h.1
         ·exact h.2)
        go_wp2_with ((with_reducible refine (HOR.out _ _ _).mono ?_); rintro e w2 hp; obtain ⟨rfl, hb⟩ := kG hp; have H2 : Hid (Below w.heap.size w w2) := Lh (ae (iD HI.out.2) hb); clear hp hb)
        go_ret;exact ⟨HRO.out ▸ rfl, H2.out⟩
       ·skip
        have z1 : (x == 0) = false := bF hx;have HRX : Hid (R = x) := Lh (by
         rcases HI.out.1 with h | h
         ·exact h.2
         ·exact absurd h.1 hx)
        go_wp2_with fail;go_ret;exact ⟨HRX.out ▸ rfl, iD HI.out.2⟩
     ·skip
      have em1 : decide ((i : Int) < (m : Int)) = false := dF (by omega);have HE : Hid ((x ≠ 0 /\ R = x) \/ (x = 0 /\ R = aQ (m : Int) (m2 : Int))) := Lh (by
       rcases HI.out.1 with h | h
       ·exact .inl h
       ·refine .inr ⟨h.1, ?_⟩;rw [h.2, lH (.inl (by rw [<- HOP.out.1.mlen]; omega)) (by first | (rw [<- HOP.out.1.nlen]; omega) | (rw [<- HOP.out.1.mlen]; omega)) (by first | (rw [<- HOP.out.2.nlen]; omega) | (rw [<- HOP.out.2.mlen]; omega)), <- HOP.out.1.mlen, <- HOP.out.2.mlen])
      by_cases hx : x = 0
      ·skip
       have z1 : (x == 0) = true := bT hx;have HRO : Hid (R = aQ (m : Int) (m2 : Int)) := Lh (by
        rcases HE.out with h | h
        ·exact absurd hx h.1
        ·exact h.2)
       go_wp2_with ((with_reducible refine (HOR.out _ _ _).mono ?_); rintro e w2 hp; obtain ⟨rfl, hb⟩ := kG hp; have H2 : Hid (Below w.heap.size w w2) := Lh (ae (iD HI.out.2) hb); clear hp hb)
       go_ret;exact ⟨HRO.out ▸ rfl, H2.out⟩
      ·skip
       have z1 : (x == 0) = false := bF hx;have HRX : Hid (R = x) := Lh (by
        rcases HI.out.1 with h | h
        ·exact h.2
        ·exact absurd h.1 hx)
       go_wp2_with fail;go_ret;exact ⟨HRX.out ▸ rfl, iD HI.out.2⟩
theorem zF {r t : Rx} {A B A2 B2 : Option Addr} {n c m d n2 c2 m2 d2 : Nat} {w : World} (h1 : aC w r A n c B m d) (h2 : aC w t A2 n2 c2 B2 m2 d2) : Calls Tryz.prog 49 #[.agg #[.int .i64 r.kind, .slice A n c, .slice B m d], .agg #[.int .i64 t.kind, .slice A2 n2 c2, .slice B2 m2 d2]] w (jO w (aW r t)) :=
 zN _ r t (Nat.le_refl _) _ rfl A B A2 B2 n c m d n2 c2 m2 d2 w h1 h2
theorem GU (r t : Rx) (V : Bool) (hV : V = decide (aW r t = 0)) (A B A2 B2 : Option Addr) (n c m d n2 c2 m2 d2 : Nat) (w : World) (h1 : aC w r A n c B m d) (h2 : aC w t A2 n2 c2 B2 m2 d2) : Calls Tryz.prog 18 #[.agg #[.int .i64 r.kind, .slice A n c, .slice B m d], .agg #[.int .i64 t.kind, .slice A2 n2 c2, .slice B2 m2 d2]] w (aI w V) := by
 obtain ⟨K, hK⟩ : ∃ K, K = r.kind := ⟨_, rfl⟩;obtain ⟨K2, hK2⟩ : ∃ K, K = t.kind := ⟨_, rfl⟩;obtain ⟨R, hR⟩ : ∃ R, R = aW r t := ⟨_, rfl⟩;have HC : Hid (∀ W, Below w.heap.size w W -> Calls Tryz.prog 49 #[.agg #[.int .i64 K, .slice A n c, .slice B m d], .agg #[.int .i64 K2, .slice A2 n2 c2, .slice B2 m2 d2]] W (jO W R)) := Lh fun W hb => by rw [hK, hK2, hR]; exact zF (h1.below hb) (h2.below hb)
 have q1 : (R == 0) = V := by rw [hV, hR]; rfl
 have hr1 : (((w.alloc (zC K A n c B m d)).alloc (zC K2 A2 n2 c2 B2 m2 d2))).rangeAt w.heap.size 0 (zV K A n c B m d) := fun j v hv => by rw [Nat.zero_add]; exact gL (Below.refl _ _) j v hv
 have hr2 : (((w.alloc (zC K A n c B m d)).alloc (zC K2 A2 n2 c2 B2 m2 d2))).rangeAt (w.heap.size + 1) 0 (zV K2 A2 n2 c2 B2 m2 d2) := fun j v hv => by rw [Nat.zero_add]; exact gI (Below.refl _ _) j v hv
 rw [<- hK, <- hK2];clear h1 h2 hK hK2 hV hR;go_enter Tryz.func18, Tryz.ntmps18
 go_wp2_with (first
  |(refine aA rfl (.tmp 2) rfl w.heap.size 0 rfl _ A B n c m d hr1 ?_)
  |(refine aA rfl (.tmp 3) rfl (w.heap.size + 1) 0 rfl _ A2 B2 n2 c2 m2 d2 hr2 ?_)
  |((with_reducible refine (HC.out _ (aB (ag _ _) _)).mono ?_); rintro e w1 hp; obtain ⟨rfl, hb⟩ := kG hp; have H1 : Hid (Below w.heap.size w w1) := Lh (ae (aB (ag _ _) _) hb); clear hp hb))
 go_ret;exact ⟨rfl, H1.out⟩
def bQ (w w' : World) : Prop := Below w.heap.size w w' /\ w'.drawn = w.drawn
section
variable {w0 w w' : World}
theorem lV (w : World) : bQ w w := ⟨Below.refl _ _, rfl⟩
theorem iG (h : bQ w0 w) (k : bQ w w') : bQ w0 w' := ⟨ae h.1 k.1, k.2.trans h.2⟩
theorem lT (h : bQ w0 w) (o : Obj) : bQ w0 (w.alloc o) := ⟨aB h.1 o, h.2⟩
theorem qU (w : World) (o : Obj) : bQ w (w.alloc o) := lT (lV w) o
end
def fT (w : World) (n : Int) (e : Ending) (w' : World) : Prop := e = .returned (.int .i64 n) /\ bQ w w'
theorem kL {w w' : World} {n : Int} {e : Ending} (h : fT w n e w') : e = .returned (.int .i64 n) /\ bQ w w' := h
theorem wW (B : Nat) : ∀ (vs : List Value) (o : Nat) (w : World), (w.setCells B o vs).drawn = w.drawn
 |[], _, _ => rfl
 |v :: vs, o, w => by rw [World.setCells, wW B vs]; rfl
theorem mZ {P : Program} {w : World} {ops : Array Oper} {rest : List Oper} {o : Oper} {a : Act} {Q : Exit -> Act -> World -> Prop} (hgd : o.guard = none) (ty : TypeId) (x y : Operand) (ho : o.op = .store ty x y)
  (g j : Nat) (hx : a.eval x = .pointer (some ⟨g, j, none⟩)) (D : List Value) (hy : a.eval y = .agg D.toArray) {C : List Value} {T : TypeId} (hb : aa w g C T) (n : Nat) (hi : (P.info? ty).map (·.size) = some n) (hD : D.length = n) (hn : j + n <= C.length) (h1 : ∀ u ∈ D, u.oneCell' = true)
  (h : ∀ w1, aK w w1 g (C.take j ++ D ++ C.drop (j + n)) T /\ w1.drawn = w.drawn -> wpList P ops Q rest (a.put o.dst undef) w1) : wpList P ops Q (o :: rest) a w := by
 subst hD;refine wpList_store_mid hgd ty x y ho g j D.toArray hx hy (hb.there j _ (by simpa using hn)) (by simpa using hi) (all_oneCell_toArray h1) ?_;exact h _ ⟨aK.of_setCells hb j D hn, wW g D j w⟩
theorem mI {w w1 : World} {v0 v1 v2 : Value} {T : TypeId} {z : Array Value} (h : aK (w.alloc (.cells z T)) w1 w.heap.size (List.take 0 [Value.int .i64 0, .slice none 0 0, .slice none 0 0] ++ [v0, v1, v2] ++ List.drop (0 + 3) [Value.int .i64 0, .slice none 0 0, .slice none 0 0]) T /\ w1.drawn = (w.alloc (.cells z T)).drawn) : aa w1 w.heap.size [v0, v1, v2] T /\ bQ w w1 :=
 ⟨(aZ h.1).1, (aZ h.1).2, h.2⟩
theorem Bc (x : Int) (w : World) : Calls Tryz.prog 169 #[.int .i64 x] w fun e w' => e = .returned (.bool false) /\ w' = w := by
 go_enter Tryz.func169, Tryz.ntmps169;go_wp2_with fail;go_ret;exact ⟨rfl, rfl⟩
theorem vo (x y r : Int) (hr : r = aQ x y) (w : World) : Calls Tryz.prog 145 #[.int .i64 x, .int .i64 y] w fun e w' => e = .returned (.int .i64 r) /\ w' = w := by
 have HNA : Hid (∀ x W, Calls Tryz.prog 169 #[.int .i64 x] W fun e w' => e = .returned (.bool false) /\ w' = W) := Lh Bc
 by_cases h1 : x < y
 ·skip
  obtain rfl : r = -1 := by rw [hr]; unfold aQ; rw [if_pos h1]
  clear hr;go_enter Tryz.func145, Tryz.ntmps145
  go_wp2_with ((with_reducible refine (HNA.out _ _).mono ?_); rintro e w1 ⟨rfl, rfl⟩)
  go_ret;exact ⟨rfl, rfl⟩
 ·by_cases h2 : y < x
  ·skip
   obtain rfl : r = 1 := by rw [hr]; unfold aQ; rw [if_neg h1, if_pos h2]
   clear hr;go_enter Tryz.func145, Tryz.ntmps145
   go_wp2_with ((with_reducible refine (HNA.out _ _).mono ?_); rintro e w1 ⟨rfl, rfl⟩)
   go_ret;exact ⟨rfl, rfl⟩
  ·skip
   obtain rfl : r = 0 := by rw [hr]; unfold aQ; rw [if_neg h1, if_neg h2]
   clear hr;go_enter Tryz.func145, Tryz.ntmps145
   go_wp2_with ((with_reducible refine (HNA.out _ _).mono ?_); rintro e w1 ⟨rfl, rfl⟩)
   go_ret;exact ⟨rfl, rfl⟩
theorem Es (l t : List Int) (A A2 : Option Addr) (n c n2 c2 : Nat) (hn : n = l.length) (hc : n <= c) (hm : c <= 9223372036854775807) (hn2 : n2 = t.length) (hc2 : n2 <= c2) (hm2 : c2 <= 9223372036854775807) (R : Int) (hR : R = bB l t) (w : World) (hr : Rd w A (iv l)) (hr2 : Rd w A2 (iv t)) : Calls Tryz.prog 147 #[.slice A n c, .slice A2 n2 c2] w (fT w R) := by
 have HV : Hid (R = bB l t /\ n = l.length /\ n2 = t.length) := Lh ⟨hR, hn, hn2⟩;have HR := Lh hr;have HR2 := Lh hr2;have HC : Hid (∀ x y W, Calls Tryz.prog 145 #[.int .i64 x, .int .i64 y] W fun e w' => e = .returned (.int .i64 (aQ x y)) /\ w' = W) := Lh fun x y W => vo x y _ rfl W
 clear hR hn hn2 hr hr2;go_enter Tryz.func147, Tryz.ntmps147;go_wp2_with fail
 go_loopg [11] n (fun g s11 wr => ∃ (k : Nat), k + g = n /\ k <= n2 /\ s11 = .int .i64 (k : Int) /\ Hid (R = bB (l.drop k) (t.drop k) /\ bQ w wr))
 case atStart => exact ⟨0, by omega, by omega, rfl, Lh ⟨by rw [HV.out.1]; rfl, lV _⟩⟩
 case round =>
  obtain ⟨k, hk, hk2, rfl, HI⟩ := hrel
  by_cases hlt : k < n
  ·obtain ⟨g, rfl⟩ : ∃ g, gk = g + 1 := ⟨gk - 1, by omega⟩;have hkl : k < l.length := by rw [<- HV.out.2.1]; exact hlt
   obtain ⟨b, o, rfl, hil⟩ := mh HR.out (by intro e; rw [e] at hkl; simp at hkl);obtain ⟨x, hx⟩ : ∃ x, x = l.getD k 0 := ⟨_, rfl⟩;have l1 : wr.cell? ⟨b, o + k, none⟩ = some (.int .i64 x) := hil.at HI.out.2.1 hkl hx
   by_cases hlt2 : k < n2
   ·have hkl2 : k < t.length := by rw [<- HV.out.2.2]; exact hlt2
    obtain ⟨b2, o2, rfl, hil2⟩ := mh HR2.out (by intro e; rw [e] at hkl2; simp at hkl2);obtain ⟨y, hy⟩ : ∃ y, y = t.getD k 0 := ⟨_, rfl⟩;have l2 : wr.cell? ⟨b2, o2 + k, none⟩ = some (.int .i64 y) := hil2.at HI.out.2.1 hkl2 hy;have HS : Hid (R = if aQ x y ≠ 0 then aQ x y else bB (l.drop (k + 1)) (t.drop (k + 1))) := Lh (by rw [HI.out.1, vB hkl hkl2, hx, hy]);have d1 : decide ((n2 : Int) <= (k : Int)) = false := dF (by omega);have d2 : decide (n2 <= k) = false := dF (by omega);obtain ⟨q, hq⟩ : ∃ q, q = aQ x y := ⟨_, rfl⟩;have HQ : Hid (∀ W, Calls Tryz.prog 145 #[.int .i64 x, .int .i64 y] W fun e w' => e = .returned (.int .i64 q) /\ w' = W) := Lh fun W => by rw [hq]; exact HC.out x y W
    rw [<- hq] at HS;clear hx hy hil hil2 hkl hkl2 hq
    by_cases h0 : q = 0
    ·have e1 : (q != 0) = false := by rw [h0]; rfl
     have HN : Hid (R = bB (l.drop (k + 1)) (t.drop (k + 1))) := Lh (by rw [HS.out, if_neg (by simpa using h0)]);clear h0
     go_wp2_with ((with_reducible refine (HQ.out _).mono ?_); rintro e w1 ⟨rfl, rfl⟩)
     go_roundg g
     case rel => exact ⟨k + 1, by omega, by omega, by go_num, Lh ⟨HN.out, HI.out.2⟩⟩
     case measure => omega
    ·have e1 : (q != 0) = true := by simp [h0]
     have HN : Hid (R = q) := Lh (by rw [HS.out, if_pos h0])
     go_wp2_with ((with_reducible refine (HQ.out _).mono ?_); rintro e w1 ⟨rfl, rfl⟩)
     go_ret;exact ⟨HN.out.symm ▸ rfl, HI.out.2⟩
   ·have d1 : decide ((n2 : Int) <= (k : Int)) = true := dT (by omega);have d2 : decide (n2 <= k) = true := dT (by omega);have HN : Hid (R = 1) := Lh (by
     rw [HI.out.1, pQ (.inr (by rw [<- HV.out.2.2]; omega)) (by omega) (by rw [<- HV.out.2.2]; omega)];unfold aQ; rw [if_neg (by rw [<- HV.out.2.1, <- HV.out.2.2]; omega), if_pos (by rw [<- HV.out.2.1, <- HV.out.2.2]; omega)])
    go_wp2_with fail;go_ret;exact ⟨HN.out.symm ▸ rfl, HI.out.2⟩
  ·obtain rfl : k = n := by omega
   have HN : Hid (R = aQ (k : Int) (n2 : Int)) := Lh (by
     rw [HI.out.1, pQ (.inl HV.out.2.1) (by rw [<- HV.out.2.1]; omega) (by rw [<- HV.out.2.2]; omega), <- HV.out.2.1, <- HV.out.2.2])
   by_cases h3 : k < n2
   ·have d1 : decide ((k : Int) < (n2 : Int)) = true := dT (by omega);have d2 : decide (k < n2) = true := dT h3;have HE : Hid (R = -1) := Lh (by rw [HN.out]; unfold aQ; rw [if_pos (by omega)]);go_wp2_with fail;go_ret;exact ⟨HE.out.symm ▸ rfl, HI.out.2⟩
   ·have d1 : decide ((k : Int) < (n2 : Int)) = false := dF (by omega);have d2 : decide (k < n2) = false := dF h3;have HE : Hid (R = 0) := Lh (by rw [HN.out]; unfold aQ; rw [if_neg (by omega), if_neg (by omega)]);go_wp2_with fail;go_ret;exact ⟨HE.out.symm ▸ rfl, HI.out.2⟩
theorem uA (args : Array Value) (W : World) : (callFunc 120 args).run Tryz.prog W = .ok (.enter 120 args) W := by kernel_rfl
theorem Ap (args : Array Value) (W : World) : (callFunc 144 args).run Tryz.prog W = .ok (.enter 144 args) W := by kernel_rfl
theorem Fg (args : Array Value) (W : World) : (callFunc 146 args).run Tryz.prog W = .ok (.enter 146 args) W := by kernel_rfl
theorem Cr (args : Array Value) (W : World) : (callFunc 148 args).run Tryz.prog W = .ok (.enter 148 args) W := by kernel_rfl
theorem CR (ks ts : List Rx) (B B' : Option Addr) (m d m' d' : Nat) (hml : m = ks.length) (hmd : m <= d) (hdm : d <= 9223372036854775807) (hml2 : m' = ts.length) (hmd2 : m' <= d') (hdm2 : d' <= 9223372036854775807) (w : World) (hks : bN w ks B 0) (hts : bN w ts B' 0)
  (hih : ∀ i, i < m -> ∀ (x : Rx) (A B A2 B2 : Option Addr) (n c k d n2 c2 m2 d2 : Nat) (W : World), aC W (ak ks i) A n c B k d -> aC W x A2 n2 c2 B2 m2 d2 -> Calls Tryz.prog 120 #[.agg #[.int .i64 (ak ks i).kind, .slice A n c, .slice B k d], .agg #[.int .i64 x.kind, .slice A2 n2 c2, .slice B2 m2 d2]] W (fT W (aW (ak ks i) x)))
  (R : Int) (hR : R = cmpL ks ts) : Calls Tryz.prog 149 #[.slice B m d, .slice B' m' d', .func (.func 120) #[] #[]] w (fT w R) := by
 have HV : Hid (R = cmpL ks ts /\ m = ks.length /\ m' = ts.length) := Lh ⟨hR, hml, hml2⟩;have HK := Lh hks;have HT := Lh hts;have HIH := Lh hih;have hen := uA;clear hR hml hml2 hks hts hih;go_enter Tryz.func149, Tryz.ntmps149;go_wp2_with fail
 go_loopg [13] m (fun g s13 wr => ∃ (i : Nat), i + g = m /\ i <= m' /\ s13 = .int .i64 (i : Int) /\ Hid (R = cmpL (ks.drop i) (ts.drop i) /\ bQ w wr))
 case atStart => exact ⟨0, by omega, by omega, rfl, Lh ⟨by rw [HV.out.1]; rfl, lV _⟩⟩
 case round =>
  obtain ⟨i, hi, hi2, rfl, HI⟩ := hrel
  by_cases hlt : i < m
  · obtain ⟨g, rfl⟩ : ∃ g, gk = g + 1 := ⟨gk - 1, by omega⟩;have hil : i < ks.length := by rw [<- HV.out.2.1]; exact hlt
    obtain ⟨b, o, rfl⟩ := HK.out.place (by omega);obtain ⟨A, n, c, B, m1, d1, hrg, hok⟩ := HK.out.kid hil;have HRG := Lh (fK hrg HI.out.2.1)
    by_cases hlt2 : i < m'
    ·have hil2 : i < ts.length := by rw [<- HV.out.2.2]; exact hlt2
     obtain ⟨b2, o2, rfl⟩ := HT.out.place (by omega);obtain ⟨A2, n2, c2, B2, m2, d2, hrg2, hok2⟩ := HT.out.kid hil2;have HRT := Lh hrg2;obtain ⟨q, hq⟩ : ∃ q, q = aW (ak ks i) (ak ts i) := ⟨_, rfl⟩;have HC : Hid (∀ W, bQ w W -> Calls Tryz.prog 120 #[.agg #[.int .i64 (ak ks i).kind, .slice A n c, .slice B m1 d1], .agg #[.int .i64 (ak ts i).kind, .slice A2 n2 c2, .slice B2 m2 d2]] W (fT W q)) := Lh fun W hb => by rw [hq]; exact HIH.out i hlt _ A B A2 B2 n c m1 d1 n2 c2 m2 d2 W (hok.below hb.1) (hok2.below hb.1)
     have HS : Hid (R = if q ≠ 0 then q else cmpL (ks.drop (i + 1)) (ts.drop (i + 1))) := Lh (by rw [HI.out.1, tK hil hil2, hq, dO hil, dO hil2]);have d1' : decide ((m' : Int) <= (i : Int)) = false := dF (by omega);have d2' : decide (m' <= i) = false := dF (by omega);clear hrg hok hrg2 hok2 hq hil hil2
     by_cases h0 : q = 0
     ·have e1 : (q != 0) = false := by rw [h0]; rfl
      have HN : Hid (R = cmpL (ks.drop (i + 1)) (ts.drop (i + 1))) := Lh (by rw [HS.out, if_neg (by simpa using h0)]);clear h0
      go_wp2_with (first
 |(refine aA rfl (.tmp 16) rfl b (o + i * 3) rfl (ak ks i).kind A B n c m1 d1 HRG.out ?_)
 |(refine mZ rfl 25 (.tmp 8) (.tmp 17) rfl wr.heap.size 0 rfl [.int .i64 (ak ks i).kind, .slice A n c, .slice B m1 d1] rfl (aa.new' wr zL _ 25 rfl) 3 au rfl (by simp) (by simp [Value.oneCell']) ?_; intro w4 hst9; have Hw4 : Hid (aa w4 wr.heap.size [.int .i64 (ak ks i).kind, .slice A n c, .slice B m1 d1] 25 /\ bQ wr w4) := Lh (mI hst9); clear hst9; have HB4 : Hid (bQ w w4) := Lh (iG HI.out.2 Hw4.out.2); have HRG2 : Hid (w4.rangeAt b2 (o2 + i * 3) [.int .i64 (ak ts i).kind, .slice A2 n2 c2, .slice B2 m2 d2]) := Lh (fK HRT.out HB4.out.1))
 |(refine aA rfl (.tmp 24) rfl b2 (o2 + i * 3) rfl (ak ts i).kind A2 B2 n2 c2 m2 d2 HRG2.out ?_)
 |(refine mZ rfl 25 (.tmp 9) (.tmp 25) rfl w4.heap.size 0 rfl [.int .i64 (ak ts i).kind, .slice A2 n2 c2, .slice B2 m2 d2] rfl (aa.new' w4 zL _ 25 rfl) 3 au rfl (by simp) (by simp [Value.oneCell']) ?_; intro w5 hst9; have Hw5 : Hid (aa w5 w4.heap.size [.int .i64 (ak ts i).kind, .slice A2 n2 c2, .slice B2 m2 d2] 25 /\ bQ w4 w5) := Lh (mI hst9); clear hst9; have HB5 : Hid (bQ w w5) := Lh (iG HB4.out Hw5.out.2); have hr4 := aM (Hw4.out.1.below Hw5.out.2.1 Hw4.out.1.lt); have hr5 := aM Hw5.out.1)
 |(refine aA rfl (.tmp 8) rfl wr.heap.size (0) rfl (ak ks i).kind A B n c m1 d1 hr4 ?_)
 |(refine aA rfl (.tmp 9) rfl w4.heap.size (0) rfl (ak ts i).kind A2 B2 n2 c2 m2 d2 hr5 ?_)
 |((with_reducible refine (HC.out _ HB5.out).mono ?_); rintro e w6 hp; obtain ⟨rfl, hb⟩ := kL hp; have H6 : Hid (bQ w w6) := Lh (iG HB5.out hb); clear hp hb hr4 hr5))
      go_roundg g
      case rel => exact ⟨i + 1, by omega, by omega, by go_num, Lh ⟨HN.out, H6.out⟩⟩
      case measure => omega
     ·have e1 : (q != 0) = true := by simp [h0]
      have HN : Hid (R = q) := Lh (by rw [HS.out, if_pos h0])
      go_wp2_with (first
 |(refine aA rfl (.tmp 16) rfl b (o + i * 3) rfl (ak ks i).kind A B n c m1 d1 HRG.out ?_)
 |(refine mZ rfl 25 (.tmp 8) (.tmp 17) rfl wr.heap.size 0 rfl [.int .i64 (ak ks i).kind, .slice A n c, .slice B m1 d1] rfl (aa.new' wr zL _ 25 rfl) 3 au rfl (by simp) (by simp [Value.oneCell']) ?_; intro w4 hst9; have Hw4 : Hid (aa w4 wr.heap.size [.int .i64 (ak ks i).kind, .slice A n c, .slice B m1 d1] 25 /\ bQ wr w4) := Lh (mI hst9); clear hst9; have HB4 : Hid (bQ w w4) := Lh (iG HI.out.2 Hw4.out.2); have HRG2 : Hid (w4.rangeAt b2 (o2 + i * 3) [.int .i64 (ak ts i).kind, .slice A2 n2 c2, .slice B2 m2 d2]) := Lh (fK HRT.out HB4.out.1))
 |(refine aA rfl (.tmp 24) rfl b2 (o2 + i * 3) rfl (ak ts i).kind A2 B2 n2 c2 m2 d2 HRG2.out ?_)
 |(refine mZ rfl 25 (.tmp 9) (.tmp 25) rfl w4.heap.size 0 rfl [.int .i64 (ak ts i).kind, .slice A2 n2 c2, .slice B2 m2 d2] rfl (aa.new' w4 zL _ 25 rfl) 3 au rfl (by simp) (by simp [Value.oneCell']) ?_; intro w5 hst9; have Hw5 : Hid (aa w5 w4.heap.size [.int .i64 (ak ts i).kind, .slice A2 n2 c2, .slice B2 m2 d2] 25 /\ bQ w4 w5) := Lh (mI hst9); clear hst9; have HB5 : Hid (bQ w w5) := Lh (iG HB4.out Hw5.out.2); have hr4 := aM (Hw4.out.1.below Hw5.out.2.1 Hw4.out.1.lt); have hr5 := aM Hw5.out.1)
 |(refine aA rfl (.tmp 8) rfl wr.heap.size (0) rfl (ak ks i).kind A B n c m1 d1 hr4 ?_)
 |(refine aA rfl (.tmp 9) rfl w4.heap.size (0) rfl (ak ts i).kind A2 B2 n2 c2 m2 d2 hr5 ?_)
 |((with_reducible refine (HC.out _ HB5.out).mono ?_); rintro e w6 hp; obtain ⟨rfl, hb⟩ := kL hp; have H6 : Hid (bQ w w6) := Lh (iG HB5.out hb); clear hp hb hr4 hr5))
      go_ret;exact ⟨HN.out.symm ▸ rfl, H6.out⟩
    ·have d1' : decide ((m' : Int) <= (i : Int)) = true := dT (by omega);have d2' : decide (m' <= i) = true := dT (by omega);have HN : Hid (R = 1) := Lh (by
      rw [HI.out.1, lH (.inr (by rw [<- HV.out.2.2]; omega)) (by omega) (by rw [<- HV.out.2.2]; omega)];unfold aQ; rw [if_neg (by rw [<- HV.out.2.1, <- HV.out.2.2]; omega), if_pos (by rw [<- HV.out.2.1, <- HV.out.2.2]; omega)])
     clear hrg hok hil
     go_wp2_with (first
      |(refine aA rfl (.tmp 16) rfl b (o + i * 3) rfl (ak ks i).kind A B n c m1 d1 HRG.out ?_)
      |(refine mZ rfl 25 (.tmp 8) (.tmp 17) rfl wr.heap.size 0 rfl [.int .i64 (ak ks i).kind, .slice A n c, .slice B m1 d1] rfl (aa.new' wr zL _ 25 rfl) 3 au rfl (by simp) (by simp [Value.oneCell']) ?_; intro w4 hst9; have Hw4 : Hid (aa w4 wr.heap.size [.int .i64 (ak ks i).kind, .slice A n c, .slice B m1 d1] 25 /\ bQ wr w4) := Lh (mI hst9); clear hst9; have HB4 : Hid (bQ w w4) := Lh (iG HI.out.2 Hw4.out.2)))
     go_ret;exact ⟨HN.out.symm ▸ rfl, HB4.out⟩
  · obtain rfl : i = m := by omega
    have HN : Hid (R = aQ (i : Int) (m' : Int)) := Lh (by
      rw [HI.out.1, lH (.inl HV.out.2.1) (by rw [<- HV.out.2.1]; omega) (by rw [<- HV.out.2.2]; omega), <- HV.out.2.1, <- HV.out.2.2])
    by_cases h3 : i < m'
    ·have d1 : decide ((i : Int) < (m' : Int)) = true := dT (by omega);have d2 : decide (i < m') = true := dT h3;have HE : Hid (R = -1) := Lh (by rw [HN.out]; unfold aQ; rw [if_pos (by omega)]);go_wp2_with fail;go_ret;exact ⟨HE.out.symm ▸ rfl, HI.out.2⟩
    ·have d1 : decide ((i : Int) < (m' : Int)) = false := dF (by omega);have d2 : decide (i < m') = false := dF h3;have HE : Hid (R = 0) := Lh (by rw [HN.out]; unfold aQ; rw [if_neg (by omega), if_neg (by omega)]);go_wp2_with fail;go_ret;exact ⟨HE.out.symm ▸ rfl, HI.out.2⟩
theorem C9 (X Y : Nat) (K K2 : Int) (A B A2 B2 : Option Addr) (n c m d n2 c2 m2 d2 : Nat) (R : Int) (w : World) (hx : w.cell? ⟨X, 0, none⟩ = some (.int .i64 K)) (hy : w.cell? ⟨Y, 0, none⟩ = some (.int .i64 K2)) (hc : Calls Tryz.prog 145 #[.int .i64 K, .int .i64 K2] w (fT w R)) : Calls Tryz.prog 144 #[.pointer (some ⟨X, 0, none⟩), .pointer (some ⟨Y, 0, none⟩)] w (fT w R) := by
 have HC := Lh hc;clear hc;go_enter Tryz.func144, Tryz.ntmps144
 go_wp2_with ((with_reducible refine HC.out.mono ?_); rintro e w1 hp; obtain ⟨rfl, hb⟩ := kL hp; have H1 : Hid (bQ w w1) := Lh hb; clear hp hb)
 go_ret;exact ⟨rfl, H1.out⟩
theorem EG (X Y : Nat) (K K2 : Int) (A B A2 B2 : Option Addr) (n c m d n2 c2 m2 d2 : Nat) (R : Int) (w : World) (hx : w.cell? ⟨X, 1, none⟩ = some (.slice A n c)) (hy : w.cell? ⟨Y, 1, none⟩ = some (.slice A2 n2 c2)) (hc : Calls Tryz.prog 147 #[.slice A n c, .slice A2 n2 c2] w (fT w R)) : Calls Tryz.prog 146 #[.pointer (some ⟨X, 0, none⟩), .pointer (some ⟨Y, 0, none⟩)] w (fT w R) := by
 have HC := Lh hc;clear hc;go_enter Tryz.func146, Tryz.ntmps146
 go_wp2_with ((with_reducible refine HC.out.mono ?_); rintro e w1 hp; obtain ⟨rfl, hb⟩ := kL hp; have H1 : Hid (bQ w w1) := Lh hb; clear hp hb)
 go_ret;exact ⟨rfl, H1.out⟩
theorem zG (X Y : Nat) (K K2 : Int) (A B A2 B2 : Option Addr) (n c m d n2 c2 m2 d2 : Nat) (R : Int) (w : World) (hx : w.cell? ⟨X, 2, none⟩ = some (.slice B m d)) (hy : w.cell? ⟨Y, 2, none⟩ = some (.slice B2 m2 d2)) (hc : Calls Tryz.prog 149 #[.slice B m d, .slice B2 m2 d2, .func (.func 120) #[] #[]] w (fT w R)) : Calls Tryz.prog 148 #[.pointer (some ⟨X, 0, none⟩), .pointer (some ⟨Y, 0, none⟩)] w (fT w R) := by
 have HC := Lh hc;clear hc;go_enter Tryz.func148, Tryz.ntmps148
 go_wp2_with ((with_reducible refine HC.out.mono ?_); rintro e w1 hp; obtain ⟨rfl, hb⟩ := kL hp; have H1 : Hid (bQ w w1) := Lh hb; clear hp hb)
 go_ret;exact ⟨rfl, H1.out⟩
namespace Rgx
def jJ : List Int -> Int
 |[] => 0
 |x :: t => if x ≠ 0 then x else jJ t
end Rgx
def Cmps (w : World) (g : Nat) (Rs : List Int) : Prop := ∀ i (h : i < Rs.length), ∃ F cb, w.cell? ⟨g, i, none⟩ = some (.func (.func F) #[] cb) /\ (∀ args W, (callFunc F args).run Tryz.prog W = .ok (.enter F args) W) /\ ∀ W, bQ w W -> Calls Tryz.prog F cb W (fT W Rs[i])
theorem Dt (Rs : List Int) (g n : Nat) (hn : n = Rs.length) (hm : n <= 1000) (R : Int) (hR : R = jJ Rs) (w : World) (hc : Cmps w g Rs) : Calls Tryz.prog 143 #[.slice (some ⟨g, 0, none⟩) n n] w (fT w R) := by
 have HV : Hid (R = jJ Rs /\ n = Rs.length) := Lh ⟨hR, hn⟩;have HC := Lh hc;clear hR hn hc;go_enter Tryz.func143, Tryz.ntmps143;go_wp2_with fail
 go_loopg [8] n (fun gg s8 wr => ∃ (i : Nat), i + gg = n /\ s8 = .int .i64 (i : Int) /\ Hid (R = jJ (Rs.drop i) /\ bQ w wr))
 case atStart => exact ⟨0, by omega, rfl, Lh ⟨by rw [HV.out.1]; rfl, lV _⟩⟩
 case round =>
  obtain ⟨i, hi, rfl, HI⟩ := hrel
  by_cases hlt : i < n
  ·obtain ⟨gg, rfl⟩ : ∃ g, gk = g + 1 := ⟨gk - 1, by omega⟩;have hil : i < Rs.length := by rw [<- HV.out.2]; exact hlt
   obtain ⟨F, cb, hce, hen, hcl⟩ := HC.out i hil;have l1 : wr.cell? ⟨g, i, none⟩ = some (.func (.func F) #[] cb) := (HI.out.2.1.cell (p := ⟨g, i, none⟩) (World.block_lt_of_cell? w _ hce)).trans hce;obtain ⟨q, hq⟩ : ∃ q, q = Rs[i] := ⟨_, rfl⟩;have HQ : Hid (∀ W, bQ w W -> Calls Tryz.prog F cb W (fT W q)) := Lh (by rw [hq]; exact hcl);have HS : Hid (R = if q ≠ 0 then q else jJ (Rs.drop (i + 1))) := Lh (by rw [HI.out.1, List.drop_eq_getElem_cons hil, jJ, hq]);clear hce hcl hq hil
   by_cases h0 : q = 0
   ·have e1 : (q != 0) = false := by rw [h0]; rfl
    have HN : Hid (R = jJ (Rs.drop (i + 1))) := Lh (by rw [HS.out, if_neg (by simpa using h0)]);clear h0
    go_wp2_with ((refine (HQ.out _ HI.out.2).mono ?_); rintro e w1 hp; obtain ⟨rfl, hb⟩ := kL hp; have H1 : Hid (bQ w w1) := Lh (iG HI.out.2 hb); clear hp hb)
    go_roundg gg
    case rel => exact ⟨i + 1, by omega, by go_num, Lh ⟨HN.out, H1.out⟩⟩
    case measure => omega
   ·have e1 : (q != 0) = true := by simp [h0]
    have HN : Hid (R = q) := Lh (by rw [HS.out, if_pos h0])
    go_wp2_with ((refine (HQ.out _ HI.out.2).mono ?_); rintro e w1 hp; obtain ⟨rfl, hb⟩ := kL hp; have H1 : Hid (bQ w w1) := Lh (iG HI.out.2 hb); clear hp hb)
    go_ret;exact ⟨HN.out.symm ▸ rfl, H1.out⟩
  ·obtain rfl : i = n := by omega
   have HE : Hid (R = 0) := Lh (by rw [HI.out.1, HV.out.2, List.drop_length, jJ]);go_wp2_with fail;go_ret;exact ⟨HE.out.symm ▸ rfl, HI.out.2⟩
theorem Bb : ∀ (z : Nat) (r t : Rx), SizeOf.sizeOf r <= z -> ∀ (R : Int), R = aW r t -> ∀ (A B A2 B2 : Option Addr) (n c m d n2 c2 m2 d2 : Nat) (w : World), aC w r A n c B m d -> aC w t A2 n2 c2 B2 m2 d2 -> Calls Tryz.prog 120 #[.agg #[.int .i64 r.kind, .slice A n c, .slice B m d], .agg #[.int .i64 t.kind, .slice A2 n2 c2, .slice B2 m2 d2]] w (fT w R) := by
 intro z
 induction z with
 |zero => intro r t hz; exact absurd hz (by cases r; rw [Rx.mk.sizeOf_spec]; omega)
 |succ z ih =>
  intro r t hz R hR A B A2 B2 n c m d n2 c2 m2 d2 w hop hop2;obtain ⟨K, hK⟩ : ∃ K, K = r.kind := ⟨_, rfl⟩;obtain ⟨K2, hK2⟩ : ∃ K, K = t.kind := ⟨_, rfl⟩;have HC1 : Hid (∀ W, Calls Tryz.prog 145 #[.int .i64 K, .int .i64 K2] W (fT W (aQ K K2))) := Lh fun W => (vo K K2 _ rfl W).mono fun e w' hp => ⟨hp.1, by rw [hp.2]; exact lV _⟩
  have HC2 : Hid (∀ W, bQ w W -> Calls Tryz.prog 147 #[.slice A n c, .slice A2 n2 c2] W (fT W (bB r.syms t.syms))) := Lh fun W hb => Es r.syms t.syms A A2 n c n2 c2 hop.nlen hop.ncap hop.cmax hop2.nlen hop2.ncap hop2.cmax _ rfl W (hop.syms.below hb.1) (hop2.syms.below hb.1)
  have HC3 : Hid (∀ W, bQ w W -> Calls Tryz.prog 149 #[.slice B m d, .slice B2 m2 d2, .func (.func 120) #[] #[]] W (fT W (cmpL r.kids t.kids))) := Lh fun W hb => CR r.kids t.kids B B2 m d m2 d2 hop.mlen hop.mcap hop.dmax hop2.mlen hop2.mcap hop2.dmax W (bN.below hb.1 _ hop.kids) (bN.below hb.1 _ hop2.kids) (fun i hi x A B A2 B2 n c k d n2 c2 m2 d2 W h h2 => ih _ x (by have := gB (dG (ks := r.kids) (i := i) (by rw [<- hop.mlen]; exact hi)); omega) _ rfl A B A2 B2 n c k d n2 c2 m2 d2 W h h2) _ rfl
  have HF : Hid (R = jJ [aQ K K2, bB r.syms t.syms, cmpL r.kids t.kids]) := Lh (by
   rw [hR, qH, hK, hK2];simp only [jJ]
   split
   ·rfl
   ·split
    ·rfl
    ·split
     ·rfl
     ·rename_i h; simpa using h)
  have HFD : Hid (∀ W T G, G = W.heap.size -> bQ ((w.alloc (zC K A n c B m d)).alloc (zC K2 A2 n2 c2 B2 m2 d2)) W -> Calls Tryz.prog 143 #[.slice (some ⟨G, 0, none⟩) 3 3] (W.alloc (.cells #[.func (.func 144) #[] #[.pointer (some ⟨w.heap.size, 0, none⟩), .pointer (some ⟨w.heap.size + 1, 0, none⟩)], .func (.func 146) #[] #[.pointer (some ⟨w.heap.size, 0, none⟩), .pointer (some ⟨w.heap.size + 1, 0, none⟩)], .func (.func 148) #[] #[.pointer (some ⟨w.heap.size, 0, none⟩), .pointer (some ⟨w.heap.size + 1, 0, none⟩)]] T)) (fT (W.alloc (.cells #[.func (.func 144) #[] #[.pointer (some ⟨w.heap.size, 0, none⟩), .pointer (some ⟨w.heap.size + 1, 0, none⟩)], .func (.func 146) #[] #[.pointer (some ⟨w.heap.size, 0, none⟩), .pointer (some ⟨w.heap.size + 1, 0, none⟩)], .func (.func 148) #[] #[.pointer (some ⟨w.heap.size, 0, none⟩), .pointer (some ⟨w.heap.size + 1, 0, none⟩)]] T)) R)) := Lh fun W T G hG hb => by
   subst hG;refine Dt _ W.heap.size 3 rfl (by omega) R HF.out _ fun i hi => ?_
   have hB := aa.new W [.func (.func 144) #[] #[.pointer (some ⟨w.heap.size, 0, none⟩), .pointer (some ⟨w.heap.size + 1, 0, none⟩)], .func (.func 146) #[] #[.pointer (some ⟨w.heap.size, 0, none⟩), .pointer (some ⟨w.heap.size + 1, 0, none⟩)], .func (.func 148) #[] #[.pointer (some ⟨w.heap.size, 0, none⟩), .pointer (some ⟨w.heap.size + 1, 0, none⟩)]] T;have hW : ∀ W1, bQ (W.alloc (.cells #[.func (.func 144) #[] #[.pointer (some ⟨w.heap.size, 0, none⟩), .pointer (some ⟨w.heap.size + 1, 0, none⟩)], .func (.func 146) #[] #[.pointer (some ⟨w.heap.size, 0, none⟩), .pointer (some ⟨w.heap.size + 1, 0, none⟩)], .func (.func 148) #[] #[.pointer (some ⟨w.heap.size, 0, none⟩), .pointer (some ⟨w.heap.size + 1, 0, none⟩)]] T)) W1 -> bQ ((w.alloc (zC K A n c B m d)).alloc (zC K2 A2 n2 c2 B2 m2 d2)) W1 := fun W1 h1 => iG (lT hb _) h1
   rcases (by simp at hi; omega : i = 0 \/ i = 1 \/ i = 2) with rfl | rfl | rfl
   ·exact ⟨_, _, hB.cell rfl, Ap, fun W1 h1 => C9 w.heap.size (w.heap.size + 1) K K2 A B A2 B2 n c m d n2 c2 m2 d2 _ W1 (gL (hW W1 h1).1 0 _ rfl) (gI (hW W1 h1).1 0 _ rfl) (HC1.out W1)⟩
   ·exact ⟨_, _, hB.cell rfl, Fg, fun W1 h1 => EG w.heap.size (w.heap.size + 1) K K2 A B A2 B2 n c m d n2 c2 m2 d2 _ W1 (gL (hW W1 h1).1 1 _ rfl) (gI (hW W1 h1).1 1 _ rfl) (HC2.out W1 (iG (lT (qU _ _) _) (hW W1 h1)))⟩
   ·exact ⟨_, _, hB.cell rfl, Cr, fun W1 h1 => zG w.heap.size (w.heap.size + 1) K K2 A B A2 B2 n c m d n2 c2 m2 d2 _ W1 (gL (hW W1 h1).1 2 _ rfl) (gI (hW W1 h1).1 2 _ rfl) (HC3.out W1 (iG (lT (qU _ _) _) (hW W1 h1)))⟩
  rw [<- hK, <- hK2];clear hR hop hop2 ih hz hK hK2;go_enter Tryz.func120, Tryz.ntmps120
  go_wp2_with ((with_reducible refine (HFD.out _ _ (w.heap.size + 1 + 1) (by simp) (lV _)).mono ?_); rintro e w1 hp; obtain ⟨rfl, hb⟩ := kL hp; have H1 : Hid (bQ w w1) := Lh (iG (lT (lT (qU _ _) _) _) hb); clear hp hb)
  go_ret;exact ⟨rfl, H1.out⟩
theorem yu {r t : Rx} {A B A2 B2 : Option Addr} {n c m d n2 c2 m2 d2 : Nat} {w : World} (h1 : aC w r A n c B m d) (h2 : aC w t A2 n2 c2 B2 m2 d2) : Calls Tryz.prog 120 #[.agg #[.int .i64 r.kind, .slice A n c, .slice B m d], .agg #[.int .i64 t.kind, .slice A2 n2 c2, .slice B2 m2 d2]] w (fT w (aW r t)) :=
 Bb _ r t (Nat.le_refl _) _ rfl A B A2 B2 n c m d n2 c2 m2 d2 w h1 h2
theorem BN {r t : Rx} {A B A2 B2 : Option Addr} {n c m d n2 c2 m2 d2 : Nat} {w : World} (h1 : aC w r A n c B m d) (h2 : aC w t A2 n2 c2 B2 m2 d2) : Calls Tryz.prog 120 #[.agg #[.int .i64 r.kind, .slice A n c, .slice B m d], .agg #[.int .i64 t.kind, .slice A2 n2 c2, .slice B2 m2 d2]] w (jO w (aW r t)) :=
 (yu h1 h2).mono fun e w' hp => ⟨hp.1, hp.2.1⟩
namespace Rgx
theorem kE {a b : Int} : aQ a b < 0 ↔ a < b := by
 unfold aQ
 split
 ·omega
 ·split <;> omega
theorem vM (a b : Int) : aQ b a = -aQ a b := by
 unfold aQ
 split <;> split <;> omega
theorem yD : ∀ a b : List Int, bB b a = -bB a b
 |[], [] => by simp [bB]
 |[], _ :: _ => by simp [bB]
 |_ :: _, [] => by simp [bB]
 |x :: xs, y :: ys => by
  rw [bB, bB, yD xs ys, vM x y]
  by_cases h : aQ x y = 0
  ·rw [if_neg (by omega), if_neg (by omega)]
  ·rw [if_pos (by omega), if_pos (by omega)]
theorem uV : ∀ {a b c : List Int}, bB a b < 0 -> bB b c < 0 -> bB a c < 0
 |[], [], _, h, _ => by simp [bB] at h
 |[], _ :: _, [], _, h => by simp [bB] at h
 |[], _ :: _, _ :: _, _, _ => by simp [bB]
 |_ :: _, [], _, h, _ => by simp [bB] at h
 |_ :: _, _ :: _, [], _, h => by simp [bB] at h
 |x :: xs, y :: ys, z :: zs, h1, h2 => by
  rw [bB] at h1 h2 ⊢
  by_cases e1 : aQ x y = 0
  ·rw [if_neg (by simpa using e1)] at h1;have := jb.1 e1;subst this
   by_cases e2 : aQ x z = 0
   ·rw [if_neg (by simpa using e2)] at h2 ⊢;exact uV h1 h2
   ·rw [if_pos e2] at h2 ⊢;exact h2
  ·rw [if_pos e1] at h1
   by_cases e2 : aQ y z = 0
   ·have := jb.1 e2;subst this;rw [if_pos e1]; exact h1
   ·rw [if_pos e2] at h2;have h3 : aQ x z < 0 := kE.2 (by have := kE.1 h1; have := kE.1 h2; omega);rw [if_pos (by omega)]; exact h3
mutual
theorem ry : ∀ a b : Rx, aW b a = -aW a b
 |.mk k s ks, .mk k' s' ks' => by
  rw [aW, aW, vM k k', yD s s', yg ks ks']
  by_cases h1 : aQ k k' = 0
  ·by_cases h2 : bB s s' = 0
   ·simp [h1, h2]
   ·have : ¬ -bB s s' = 0 := by omega
    simp [h1, h2]
  ·have : ¬ -aQ k k' = 0 := by omega
   simp [h1]
theorem yg : ∀ a b : List Rx, cmpL b a = -cmpL a b
 |[], [] => by simp [cmpL]
 |[], _ :: _ => by simp [cmpL]
 |_ :: _, [] => by simp [cmpL]
 |x :: xs, y :: ys => by
  rw [cmpL, cmpL, yg xs ys, ry x y]
  by_cases h : aW x y = 0
  ·rw [if_neg (by omega), if_neg (by omega)]
  ·rw [if_pos (by omega), if_pos (by omega)]
end
mutual
theorem o6 : ∀ {a b c : Rx}, aW a b < 0 -> aW b c < 0 -> aW a c < 0
 |.mk k s ks, .mk k' s' ks', .mk k'' s'' ks'', h1, h2 => by
  rw [aW] at h1 h2 ⊢
  by_cases e1 : aQ k k' = 0
  ·rw [if_neg (by simpa using e1)] at h1
   have := jb.1 e1
   subst this
   by_cases e2 : aQ k k'' = 0
   ·rw [if_neg (by simpa using e2)] at h2 ⊢
    by_cases e3 : bB s s' = 0
    ·rw [if_neg (by simpa using e3)] at h1
     have := nE.1 e3
     subst this
     by_cases e4 : bB s s'' = 0
     ·rw [if_neg (by simpa using e4)] at h2 ⊢
      exact vR h1 h2
     ·rw [if_pos e4] at h2 ⊢
      exact h2
    ·rw [if_pos e3] at h1
     by_cases e4 : bB s' s'' = 0
     ·have := nE.1 e4
      subst this
      rw [if_pos e3]; exact h1
     ·rw [if_pos e4] at h2
      have h3 : bB s s'' < 0 := uV h1 h2
      rw [if_pos (by omega)]; exact h3
   ·rw [if_pos e2] at h2 ⊢
    exact h2
  ·rw [if_pos e1] at h1
   by_cases e2 : aQ k' k'' = 0
   ·have := jb.1 e2
    subst this
    rw [if_pos e1]; exact h1
   ·rw [if_pos e2] at h2
    have h3 : aQ k k'' < 0 := kE.2 (by have := kE.1 h1; have := kE.1 h2; omega)
    rw [if_pos (by omega)]; exact h3
theorem vR : ∀ {a b c : List Rx}, cmpL a b < 0 -> cmpL b c < 0 -> cmpL a c < 0
 |[], [], _, h, _ => by simp [cmpL] at h
 |[], _ :: _, [], _, h => by simp [cmpL] at h
 |[], _ :: _, _ :: _, _, _ => by simp [cmpL]
 |_ :: _, [], _, h, _ => by simp [cmpL] at h
 |_ :: _, _ :: _, [], _, h => by simp [cmpL] at h
 |x :: xs, y :: ys, z :: zs, h1, h2 => by
  rw [cmpL] at h1 h2 ⊢
  by_cases e1 : aW x y = 0
  ·rw [if_neg (by simpa using e1)] at h1
   have := iU.1 e1
   subst this
   by_cases e2 : aW x z = 0
   ·rw [if_neg (by simpa using e2)] at h2 ⊢
    exact vR h1 h2
   ·rw [if_pos e2] at h2 ⊢
    exact h2
  ·rw [if_pos e1] at h1
   by_cases e2 : aW y z = 0
   ·have := iU.1 e2
    subst this
    rw [if_pos e1]; exact h1
   ·rw [if_pos e2] at h2
    have h3 : aW x z < 0 := o6 h1 h2
    rw [if_pos (by omega)]; exact h3
end
theorem qM (a : Rx) : aW a a = 0 := iU.2 rfl
def eD (x y : Rx) : Prop := aW x y < 0
theorem eD.tr {a b c : Rx} (h1 : eD a b) (h2 : eD b c) : eD a c := o6 h1 h2
theorem eD.irr {a : Rx} (h : eD a a) : False := by unfold eD at h; rw [qM] at h; omega
theorem eD.asym {a b : Rx} (h1 : eD a b) (h2 : eD b a) : False := (h1.tr h2).irr
theorem qx {a b : Rx} (h1 : ¬ eD a b) (h2 : a ≠ b) : eD b a := by
 unfold eD at h1 ⊢;rw [ry a b];have h3 : aW a b ≠ 0 := fun e => h2 (iU.1 e)
 omega
abbrev gN (l : List Rx) : Prop := l.Pairwise eD
theorem ql : ∀ {a b : List Rx}, gN a -> gN b -> (∀ x, x ∈ a ↔ x ∈ b) -> a = b
 |[], [], _, _, _ => rfl
 |[], y :: b, _, _, h => absurd ((h y).2 (by simp)) (by simp)
 |x :: a, [], _, _, h => absurd ((h x).1 (by simp)) (by simp)
 |x :: a, y :: b, ha, hb, h => by
  obtain ⟨ha1, ha2⟩ := List.pairwise_cons.1 ha;obtain ⟨hb1, hb2⟩ := List.pairwise_cons.1 hb;have hxy : x = y := by
   rcases List.mem_cons.1 ((h x).1 (by simp)) with e | hx
   ·exact e
   ·rcases List.mem_cons.1 ((h y).2 (by simp)) with e | hy
    ·exact e.symm
    ·exact ((ha1 y hy).asym (hb1 x hx)).elim
  subst hxy;rw [ql ha2 hb2 fun z => ?_];constructor
  ·intro hz
   rcases List.mem_cons.1 ((h z).1 (by simp [hz])) with e | hz'
   ·subst e; exact ((ha1 _ hz).irr).elim
   ·exact hz'
  ·intro hz
   rcases List.mem_cons.1 ((h z).2 (by simp [hz])) with e | hz'
   ·subst e; exact ((hb1 _ hz).irr).elim
   ·exact hz'
def fe : List Rx -> Rx -> List Rx
 |[], x => [x]
 |y :: l, x => if aW y x < 0 then y :: fe l x else if aW y x = 0 then y :: l else x :: y :: l
theorem oG {l : List Rx} {x z : Rx} : z ∈ fe l x ↔ z = x \/ z ∈ l := by
 induction l with
 |nil => simp [fe]
 |cons y l ih =>
  rw [fe]
  split
  ·rw [List.mem_cons, ih, List.mem_cons];constructor
   ·rintro (h | h | h)
    ·exact .inr (.inl h)
    ·exact .inl h
    ·exact .inr (.inr h)
   ·rintro (h | h | h)
    ·exact .inr (.inl h)
    ·exact .inl h
    ·exact .inr (.inr h)
  ·split
   ·rename_i h2
    have := iU.1 h2;subst this;constructor
    ·exact fun h => .inr h
    ·rintro (h | h)
     ·exact List.mem_cons.2 (.inl h)
     ·exact h
   ·rw [List.mem_cons]
theorem qP {l : List Rx} {x : Rx} (h : gN l) : gN (fe l x) := by
 induction l with
 |nil => exact List.pairwise_singleton _ _
 |cons y l ih =>
  obtain ⟨h1, h2⟩ := List.pairwise_cons.1 h;rw [fe]
  split
  ·rename_i hlt
   refine List.pairwise_cons.2 ⟨fun z hz => ?_, ih h2⟩
   rcases oG.1 hz with rfl | hz
   ·exact hlt
   ·exact h1 z hz
  ·split
   ·exact h
   ·rename_i hn1 hn2
    have hxy : eD x y := qx hn1 (fun e => hn2 (iU.2 e));refine List.pairwise_cons.2 ⟨fun z hz => ?_, h⟩
    rcases List.mem_cons.1 hz with rfl | hz
    ·exact hxy
    ·exact hxy.tr (h1 z hz)
def fU (out : List Rx) (l : List Rx) : List Rx := l.foldl fe out
theorem wG {z : Rx} : ∀ {l out : List Rx}, z ∈ fU out l ↔ z ∈ out \/ z ∈ l
 |[], out => by simp [fU]
 |x :: l, out => by
  show z ∈ fU (fe out x) l ↔ _;rw [wG, oG, List.mem_cons];constructor
  ·rintro ((h | h) | h)
   ·exact .inr (.inl h)
   ·exact .inl h
   ·exact .inr (.inr h)
  ·rintro (h | h | h)
   ·exact .inl (.inr h)
   ·exact .inl (.inl h)
   ·exact .inr h
theorem wC : ∀ {l out : List Rx}, gN out -> gN (fU out l)
 |[], _, h => h
 |x :: l, out, h => by
  show gN (fU (fe out x) l);exact wC (qP h)
end Rgx
namespace Rgx
def spl (r : Rx) : List Rx := if r.kind = 3 then r.kids else if r.kind = 1 then [] else [r]
theorem oQ : ∀ (l out : List Rx), seqGo l out = if l.any (fun x => decide (x.kind = 0)) then none else some (out ++ l.flatMap spl)
 |[], out => by simp [seqGo]
 |r :: rs, out => by
  rw [seqGo]
  by_cases h0 : r.kind = 0
  ·simp [h0]
  ·rw [if_neg h0]
   by_cases h3 : r.kind = 3
   ·rw [if_pos h3, oQ rs];simp [h0, spl, h3]
   ·rw [if_neg h3]
    by_cases h1 : r.kind = 1
    ·rw [if_pos h1, oQ rs];simp [spl, h1]
    ·rw [if_neg h1, oQ rs];simp [h0, spl, h3, h1]
theorem iH (l : List Rx) : seqP l = if l.any (fun x => decide (x.kind = 0)) then .mk 0 [] [] else seqEnd (l.flatMap spl) := by
 unfold seqP;rw [oQ]
 split <;> simp_all
def flt (r : Rx) : List Rx := if r.kind = 4 then r.kids else [r]
def flatR (l : List Rx) : List Rx := l.flatMap flt
def bO (l : List Rx) : List Int := ((List.range 64).map Int.ofNat).filter fun s => l.any fun x => x.syms.contains s
def gQ (f : List Rx) : Bool := f.any (fun x => decide (x.kind = 1)) && !f.any (fun x => decide (2 < x.kind) && aL x)
def altOut (f : List Rx) : List Rx :=
 let out := fU [] (f.filter fun x => decide (2 < x.kind))
 let out2 := if bO f = [] then out else fe out (.mk 2 (bO f) [])
 if gQ f then fe out2 (.mk 1 [] []) else out2
def altEnd : List Rx -> Rx
 |[] => .mk 0 [] []
 |[x] => x
 |out => .mk 4 [] out
def altP (l : List Rx) : Rx := altEnd (altOut (flatR l))
def starP (x : Rx) : Rx := if x.kind = 0 \/ x.kind = 1 then .mk 1 [] [] else if x.kind = 5 then x else .mk 5 [] [if x.kind = 4 then altP (x.kids.filter fun y => decide (y.kind ≠ 1)) else x]
mutual
def normR (t : Bool) : Rx -> Rx
 |.mk k s ks => if k = 3 then seqP (if t then (kN t ks).reverse else kN t ks) else if k = 4 then altP (kN t ks) else if k = 5 then starP ((kN t ks).headD (.mk 0 [] [])) else .mk k s ks
def kN (t : Bool) : List Rx -> List Rx
 |[] => []
 |r :: rs => normR t r :: kN t rs
end
theorem uG (t : Bool) : ∀ ks : List Rx, kN t ks = ks.map (normR t)
 |[] => by rw [kN]; rfl
 |r :: rs => by rw [kN, uG t rs]; rfl
def lX (t : Bool) (l : List Rx) : List Rx := if t then l.reverse else l
theorem bX (t : Bool) (r : Rx) : normR t r = if r.kind = 3 then seqP (lX t (r.kids.map (normR t))) else if r.kind = 4 then altP (r.kids.map (normR t)) else if r.kind = 5 then starP ((r.kids.map (normR t)).headD (.mk 0 [] [])) else r := by
 cases r with
 |mk k s ks => rw [normR, uG]; rfl
theorem iE {f : List Rx} {s : Int} : s ∈ bO f ↔ (0 <= s /\ s < 64) /\ ∃ x ∈ f, s ∈ x.syms := by
 unfold bO;rw [List.mem_filter, List.mem_map, List.any_eq_true];constructor
 ·rintro ⟨⟨n, hn, rfl⟩, x, hx, h⟩;have := List.mem_range.1 hn;refine ⟨⟨?_, ?_⟩, x, hx, by simpa using h⟩
  ·show 0 <= (n : Int); omega
  ·show (n : Int) < 64; omega
 ·rintro ⟨⟨h0, h1⟩, x, hx, h⟩;exact ⟨⟨s.toNat, List.mem_range.2 (by omega), by show ((s.toNat : Nat) : Int) = s; omega⟩, x, hx, by simpa using h⟩
theorem nV (f : List Rx) : (bO f).Pairwise (· < ·) := by
 unfold bO;refine List.Pairwise.filter _ ?_;rw [List.pairwise_map];exact List.pairwise_lt_range.imp fun h => by show ((_ : Nat) : Int) < ((_ : Nat) : Int); omega
theorem mO : ∀ {a b : List Int}, a.Pairwise (· < ·) -> b.Pairwise (· < ·) -> (∀ x, x ∈ a ↔ x ∈ b) -> a = b
 |[], [], _, _, _ => rfl
 |[], y :: b, _, _, h => absurd ((h y).2 (by simp)) (by simp)
 |x :: a, [], _, _, h => absurd ((h x).1 (by simp)) (by simp)
 |x :: a, y :: b, ha, hb, h => by
  obtain ⟨ha1, ha2⟩ := List.pairwise_cons.1 ha;obtain ⟨hb1, hb2⟩ := List.pairwise_cons.1 hb;have hxy : x = y := by
   rcases List.mem_cons.1 ((h x).1 (by simp)) with e | hx
   ·exact e
   ·rcases List.mem_cons.1 ((h y).2 (by simp)) with e | hy
    ·exact e.symm
    ·have := ha1 y hy; have := hb1 x hx; omega
  subst hxy;rw [mO ha2 hb2 fun z => ?_];constructor
  ·intro hz
   rcases List.mem_cons.1 ((h z).1 (by simp [hz])) with e | hz'
   ·subst e; have := ha1 _ hz; omega
   ·exact hz'
  ·intro hz
   rcases List.mem_cons.1 ((h z).2 (by simp [hz])) with e | hz'
   ·subst e; have := hb1 _ hz; omega
   ·exact hz'
theorem uK : ∀ {l : List Int}, eX l = true ↔ l.Pairwise (· < ·) /\ ∀ x ∈ l, 0 <= x /\ x < 64
 |[] => by simp [eX]
 |[x] => by simp [eX]
 |x :: y :: t => by
  have ih := uK (l := y :: t);have e : eX (x :: y :: t) = (decide (0 <= x /\ x < 64) && decide (x < y) && eX (y :: t)) := by rw [eX]
  rw [e, Bool.and_eq_true, Bool.and_eq_true, decide_eq_true_eq, decide_eq_true_eq, ih];constructor
  ·rintro ⟨⟨h1, h2⟩, h3, h4⟩;refine ⟨List.pairwise_cons.2 ⟨fun z hz => ?_, h3⟩, fun z hz => ?_⟩
   ·rcases List.mem_cons.1 hz with rfl | hz
    ·exact h2
    ·have := (List.pairwise_cons.1 h3).1 z hz; omega
   ·rcases List.mem_cons.1 hz with rfl | hz
    ·exact h1
    ·exact h4 z hz
  ·rintro ⟨h3, h4⟩;obtain ⟨h5, h6⟩ := List.pairwise_cons.1 h3;exact ⟨⟨h4 x (by simp), h5 y (by simp)⟩, h6, fun z hz => h4 z (by simp [hz])⟩
theorem gW {l : List Int} : dI l = true ↔ l ≠ [] /\ l.Pairwise (· < ·) /\ ∀ x ∈ l, 0 <= x /\ x < 64 := by
 unfold dI;rw [Bool.and_eq_true, decide_eq_true_eq, uK, List.length_pos_iff]
theorem Bw {f : List Rx} (h : bO f ≠ []) : dI (bO f) = true :=
 gW.2 ⟨h, nV f, fun x hx => (iE.1 hx).1⟩
theorem iM {f : List Rx} : gQ f = true ↔ (∃ x ∈ f, x.kind = 1) /\ ∀ x ∈ f, 2 < x.kind -> aL x = false := by
 unfold gQ;rw [Bool.and_eq_true, List.any_eq_true, Bool.not_eq_true', List.any_eq_false];constructor
 ·rintro ⟨⟨x, h1, h2⟩, h⟩;exact ⟨⟨x, h1, by simpa using h2⟩, fun y hy hk => by have := h y hy; simp [hk] at this; exact this⟩
 ·rintro ⟨⟨x, h1, h2⟩, h⟩;exact ⟨⟨x, h1, by simpa using h2⟩, fun y hy => by
   by_cases hk : 2 < y.kind
   ·simp [h y hy hk]
   ·simp [hk]⟩
theorem fH {f : List Rx} {z : Rx} : z ∈ altOut f ↔ (z ∈ f /\ 2 < z.kind) \/ (bO f ≠ [] /\ z = .mk 2 (bO f) []) \/ (gQ f = true /\ z = .mk 1 [] []) := by
 have h1 : z ∈ fU [] (f.filter fun x => decide (2 < x.kind)) ↔ z ∈ f /\ 2 < z.kind := by
  rw [wG, List.mem_filter]; simp
 have h2 : z ∈ (if bO f = [] then fU [] (f.filter fun x => decide (2 < x.kind)) else fe (fU [] (f.filter fun x => decide (2 < x.kind))) (.mk 2 (bO f) [])) ↔ (z ∈ f /\ 2 < z.kind) \/ (bO f ≠ [] /\ z = .mk 2 (bO f) []) := by
  by_cases h : bO f = []
  ·rw [if_pos h, h1]; simp [h]
  ·rw [if_neg h, oG, h1]; simp [h]; exact Or.comm
 show z ∈ (if gQ f then fe _ (.mk 1 [] []) else _) ↔ _
 by_cases h : gQ f = true
 ·rw [if_pos h, oG, h2]; simp only [h, true_and];constructor
  ·rintro (h | h | h)
   ·exact .inr (.inr h)
   ·exact .inl h
   ·exact .inr (.inl h)
  ·rintro (h | h | h)
   ·exact .inr (.inl h)
   ·exact .inr (.inr h)
   ·exact .inl h
 ·rw [if_neg h, h2]; simp [h]
theorem nI (f : List Rx) : gN (altOut f) := by
 have h1 : gN (fU [] (f.filter fun x => decide (2 < x.kind))) := wC List.Pairwise.nil;have h2 : gN (if bO f = [] then fU [] (f.filter fun x => decide (2 < x.kind)) else fe (fU [] (f.filter fun x => decide (2 < x.kind))) (.mk 2 (bO f) [])) := by
  split
  ·exact h1
  ·exact qP h1
 show gN (if gQ f then fe _ (.mk 1 [] []) else _)
 split
 ·exact qP h2
 ·exact h2
structure gM (f g : List Rx) : Prop where
 big : ∀ z, 2 < z.kind -> (z ∈ f ↔ z ∈ g)
 sym : ∀ s, (∃ x ∈ f, s ∈ x.syms) ↔ ∃ x ∈ g, s ∈ x.syms
 emp : (∀ x ∈ f, 2 < x.kind -> aL x = false) -> ((∃ x ∈ f, x.kind = 1) ↔ ∃ x ∈ g, x.kind = 1)
theorem gM.alt {f g : List Rx} (h : gM f g) : altOut f = altOut g := by
 have hs : bO f = bO g := mO (nV f) (nV g) fun s => by rw [iE, iE, h.sym]
 have hc : gQ f = gQ g := by
  rw [Bool.eq_iff_iff, iM, iM];have h2 : (∀ x ∈ f, 2 < x.kind -> aL x = false) ↔ ∀ x ∈ g, 2 < x.kind -> aL x = false :=
   ⟨fun k x hx hk => k x ((h.big x hk).2 hx) hk, fun k x hx hk => k x ((h.big x hk).1 hx) hk⟩
  constructor
  ·rintro ⟨a, b⟩; exact ⟨(h.emp b).1 a, h2.1 b⟩
  ·rintro ⟨a, b⟩; exact ⟨(h.emp (h2.2 b)).2 a, h2.2 b⟩
 refine ql (nI f) (nI g) fun z => ?_
 rw [fH, fH, hs, hc];constructor
 ·rintro (⟨h1, h2⟩ | h1)
  ·exact .inl ⟨(h.big z h2).1 h1, h2⟩
  ·exact .inr h1
 ·rintro (⟨h1, h2⟩ | h1)
  ·exact .inl ⟨(h.big z h2).2 h1, h2⟩
  ·exact .inr h1
theorem gM.of_mem {f g : List Rx} (h : ∀ z, z ∈ f ↔ z ∈ g) : gM f g :=
 ⟨fun z _ => h z, fun s => ⟨fun ⟨x, a, b⟩ => ⟨x, (h x).1 a, b⟩, fun ⟨x, a, b⟩ => ⟨x, (h x).2 a, b⟩⟩, fun _ => ⟨fun ⟨x, a, b⟩ => ⟨x, (h x).1 a, b⟩, fun ⟨x, a, b⟩ => ⟨x, (h x).2 a, b⟩⟩⟩
structure kV (ks : List Rx) : Prop where
 kin : ∀ x ∈ ks, x.kind ≠ 0 /\ x.kind ≠ 4
 srt : gN ks
 one : ∀ x ∈ ks, ∀ y ∈ ks, x.kind = 2 -> y.kind = 2 -> x = y
 emp : (∃ x ∈ ks, x.kind = 1) -> ∀ x ∈ ks, 2 < x.kind -> aL x = false
inductive NF : Rx -> Prop where
 |none : NF (.mk 0 [] [])
 |empty : NF (.mk 1 [] [])
 |set {s : List Int} : dI s = true -> NF (.mk 2 s [])
 |seq {ks : List Rx} : 2 <= ks.length -> (∀ x ∈ ks, NF x) -> (∀ x ∈ ks, x.kind ≠ 0 /\ x.kind ≠ 1 /\ x.kind ≠ 3) -> NF (.mk 3 [] ks)
 |alt {ks : List Rx} : 2 <= ks.length -> (∀ x ∈ ks, NF x) -> kV ks -> NF (.mk 4 [] ks)
 |star {x : Rx} : NF x -> (x.kind ≠ 0 /\ x.kind ≠ 1 /\ x.kind ≠ 5) -> (x.kind = 4 -> ∀ y ∈ x.kids, y.kind ≠ 1) -> NF (.mk 5 [] [x])
theorem NF.rng {x : Rx} (h : NF x) : 0 <= x.kind /\ x.kind <= 5 := by cases h <;> (show (0 : Int) <= _ /\ _ <= (5 : Int)) <;> simp [Rx.kind]
theorem NF.kids {x : Rx} (h : NF x) : ∀ y ∈ x.kids, NF y := by
 cases h with
 |none => intro y hy; cases hy
 |empty => intro y hy; cases hy
 |set _ => intro y hy; cases hy
 |seq _ h _ => exact h
 |alt _ h _ => exact h
 |star h _ _ => intro y hy; rw [show y = _ from by simpa [Rx.kids] using hy]; exact h
theorem NF.k0 {x : Rx} (h : NF x) (hk : x.kind = 0) : x = .mk 0 [] [] := by cases h <;> simp [Rx.kind] at hk <;> rfl
theorem NF.k1 {x : Rx} (h : NF x) (hk : x.kind = 1) : x = .mk 1 [] [] := by cases h <;> simp [Rx.kind] at hk <;> rfl
theorem NF.k2 {x : Rx} (h : NF x) (hk : x.kind = 2) : x = .mk 2 x.syms [] /\ dI x.syms = true := by
 cases h <;> simp [Rx.kind] at hk
 exact ⟨rfl, by assumption⟩
theorem NF.k3 {x : Rx} (h : NF x) (hk : x.kind = 3) : x = .mk 3 [] x.kids /\ 2 <= x.kids.length /\ ∀ y ∈ x.kids, y.kind ≠ 0 /\ y.kind ≠ 1 /\ y.kind ≠ 3 := by
 cases h <;> simp [Rx.kind] at hk
 exact ⟨rfl, by assumption, by assumption⟩
theorem NF.k4 {x : Rx} (h : NF x) (hk : x.kind = 4) : x = .mk 4 [] x.kids /\ 2 <= x.kids.length /\ kV x.kids := by
 cases h <;> simp [Rx.kind] at hk
 exact ⟨rfl, by assumption, by assumption⟩
theorem NF.k5 {x : Rx} (h : NF x) (hk : x.kind = 5) : ∃ y, x = .mk 5 [] [y] /\ NF y /\ (y.kind ≠ 0 /\ y.kind ≠ 1 /\ y.kind ≠ 5) /\ (y.kind = 4 -> ∀ z ∈ y.kids, z.kind ≠ 1) := by
 cases h <;> simp [Rx.kind] at hk
 exact ⟨_, rfl, by assumption, by assumption, by assumption⟩
theorem NF.syms {x : Rx} (h : NF x) (hk : x.kind ≠ 2) : x.syms = [] := by cases h <;> first | rfl | simp [Rx.kind] at hk
theorem NF.sym_in {x : Rx} (h : NF x) : ∀ s ∈ x.syms, 0 <= s /\ s < 64 := by
 by_cases hk : x.kind = 2
 ·exact (gW.1 (h.k2 hk).2).2.2
 ·rw [h.syms hk]; intro s hs; cases hs
theorem NF.spl {x : Rx} (h : NF x) : ∀ y ∈ spl x, NF y /\ (x.kind ≠ 0 -> y.kind ≠ 0) /\ y.kind ≠ 1 /\ y.kind ≠ 3 := by
 intro y hy;unfold Rgx.spl at hy
 by_cases h3 : x.kind = 3
 ·rw [if_pos h3] at hy;have := (h.k3 h3).2.2 y hy;exact ⟨h.kids y hy, fun _ => this.1, this.2.1, this.2.2⟩
 ·rw [if_neg h3] at hy
  by_cases h1 : x.kind = 1
  ·rw [if_pos h1] at hy; cases hy
  ·rw [if_neg h1] at hy;have e : y = x := by simpa using hy
   subst e;exact ⟨h, id, h1, h3⟩
theorem NF.seqEnd {F : List Rx} (h : ∀ x ∈ F, NF x) (hk : ∀ x ∈ F, x.kind ≠ 0 /\ x.kind ≠ 1 /\ x.kind ≠ 3) : NF (seqEnd F) := by
 match F with
 |[] => exact .empty
 |[x] => exact h x (by simp)
 |x :: y :: t => exact .seq (by simp) h hk
theorem NF.flat {M : List Rx} (h : ∀ x ∈ M, NF x) (h0 : M.any (fun x => decide (x.kind = 0)) = false) : ∀ y ∈ M.flatMap Rgx.spl, NF y /\ y.kind ≠ 0 /\ y.kind ≠ 1 /\ y.kind ≠ 3 := by
 intro y hy;obtain ⟨x, hx, hy⟩ := List.mem_flatMap.1 hy;have h1 := (h x hx).spl y hy;have h2 : x.kind ≠ 0 := by have := List.any_eq_false.1 h0 x hx; simpa using this
 exact ⟨h1.1, h1.2.1 h2, h1.2.2⟩
theorem NF.seqP {M : List Rx} (h : ∀ x ∈ M, NF x) : NF (seqP M) := by
 rw [iH]
 by_cases h0 : M.any (fun x => decide (x.kind = 0)) = true
 ·rw [if_pos h0]; exact .none
 ·rw [if_neg h0];have h1 := NF.flat h (by simpa using h0);exact NF.seqEnd (fun x hx => (h1 x hx).1) fun x hx => (h1 x hx).2
theorem mF {x : Rx} (h : x.kind ≠ 1 /\ x.kind ≠ 3) : spl x = [x] := by unfold spl; rw [if_neg h.2, if_neg h.1]
theorem tC : ∀ {F : List Rx}, (∀ x ∈ F, x.kind ≠ 0 /\ x.kind ≠ 1 /\ x.kind ≠ 3) -> F.flatMap spl = F
 |[], _ => rfl
 |x :: t, h => by
  rw [List.flatMap_cons, mF (h x (by simp)).2, tC fun y hy => h y (by simp [hy])]
  rfl
theorem EP {F : List Rx} (hk : ∀ x ∈ F, x.kind ≠ 0 /\ x.kind ≠ 1 /\ x.kind ≠ 3) : spl (seqEnd F) = F /\ (seqEnd F).kind ≠ 0 := by
 match F with
 |[] => exact ⟨rfl, by simp [Rgx.seqEnd, Rx.kind]⟩
 |[x] => exact ⟨mF (hk x (by simp)).2, (hk x (by simp)).1⟩
 |x :: y :: t => exact ⟨rfl, by simp [Rgx.seqEnd, Rx.kind]⟩
theorem zI {A M B : List Rx} (h : ∀ x ∈ M, NF x) : seqP (A ++ seqP M :: B) = seqP (A ++ M ++ B) := by
 rw [iH M]
 by_cases h0 : M.any (fun x => decide (x.kind = 0)) = true
 ·rw [if_pos h0, iH, iH, if_pos, if_pos]
  ·rw [List.any_append, List.any_append, h0]; simp
  ·rw [List.any_append]; simp [Rx.kind]
 ·rw [if_neg h0];have h1 := NF.flat h (by simpa using h0);have h2 := EP (F := M.flatMap spl) fun x hx => (h1 x hx).2
  have e0 : M.any (fun x => decide (x.kind = 0)) = false := by simpa using h0
  rw [iH, iH (A ++ M ++ B)];have e1 : (A ++ Rgx.seqEnd (M.flatMap spl) :: B).any (fun x => decide (x.kind = 0)) = (A ++ M ++ B).any (fun x => decide (x.kind = 0)) := by
   rw [List.any_append, List.any_cons, List.any_append, List.any_append, e0];simp [h2.2]
  rw [e1];have e2 : (A ++ Rgx.seqEnd (M.flatMap spl) :: B).flatMap spl = (A ++ M ++ B).flatMap spl := by
   rw [List.flatMap_append, List.flatMap_cons, h2.1, List.flatMap_append, List.flatMap_append, List.append_assoc]
  rw [e2]
theorem Aw {x : Rx} (h : NF x) : seqP [x] = x := by
 rw [iH]
 by_cases h0 : x.kind = 0
 ·rw [h.k0 h0]; rfl
 ·simp only [List.any_cons, List.any_nil, h0, decide_false, Bool.or_false, List.flatMap_cons, List.flatMap_nil, List.append_nil];rw [if_neg (by simp)]
  by_cases h1 : x.kind = 1
  ·rw [h.k1 h1]; rfl
  ·by_cases h3 : x.kind = 3
   ·obtain ⟨e, h4, _⟩ := h.k3 h3;have : spl x = x.kids := by unfold spl; rw [if_pos h3]
    rw [this]
    match hk : x.kids, h4 with
    |a :: b :: t, _ => rw [e, hk]; rfl
   ·rw [mF ⟨h1, h3⟩]; rfl
theorem NF.flt {x : Rx} (h : NF x) : ∀ y ∈ flt x, NF y /\ y.kind ≠ 4 := by
 intro y hy;unfold Rgx.flt at hy
 by_cases h4 : x.kind = 4
 ·rw [if_pos h4] at hy;exact ⟨h.kids y hy, ((h.k4 h4).2.2.kin y hy).2⟩
 ·rw [if_neg h4] at hy;have e : y = x := by simpa using hy
  subst e;exact ⟨h, h4⟩
theorem NF.flatR {l : List Rx} (h : ∀ x ∈ l, NF x) : ∀ y ∈ flatR l, NF y /\ y.kind ≠ 4 := by
 intro y hy;obtain ⟨x, hx, hy⟩ := List.mem_flatMap.1 hy;exact (h x hx).flt y hy
theorem NF.altK {f : List Rx} (h : ∀ x ∈ f, NF x /\ x.kind ≠ 4) : kV (altOut f) := by
 refine ⟨fun x hx => ?_, nI f, fun x hx y hy h1 h2 => ?_, fun ⟨x, hx, hk⟩ y hy hy2 => ?_⟩
 ·rcases fH.1 hx with ⟨h1, h2⟩ | ⟨h1, rfl⟩ | ⟨h1, rfl⟩
  ·exact ⟨by omega, (h x h1).2⟩
  ·simp [Rx.kind]
  ·simp [Rx.kind]
 ·have e : ∀ z ∈ altOut f, z.kind = 2 -> z = .mk 2 (bO f) [] := fun z hz hk => by
   rcases fH.1 hz with ⟨h1, h2⟩ | ⟨h1, rfl⟩ | ⟨h1, rfl⟩
   ·omega
   ·rfl
   ·simp [Rx.kind] at hk
  rw [e x hx h1, e y hy h2]
 ·have hc : gQ f = true := by
   rcases fH.1 hx with ⟨h1, h2⟩ | ⟨h1, rfl⟩ | ⟨h1, rfl⟩
   ·omega
   ·simp [Rx.kind] at hk
   ·exact h1
  rcases fH.1 hy with ⟨h1, h2⟩ | ⟨h1, rfl⟩ | ⟨h1, rfl⟩
  ·exact (iM.1 hc).2 y h1 h2
  ·simp [Rx.kind] at hy2
  ·simp [Rx.kind] at hy2
theorem NF.altOut {f : List Rx} (h : ∀ x ∈ f, NF x /\ x.kind ≠ 4) : ∀ x ∈ altOut f, NF x := fun x hx => by
 rcases fH.1 hx with ⟨h1, h2⟩ | ⟨h1, rfl⟩ | ⟨h1, rfl⟩
 ·exact (h x h1).1
 ·exact .set (Bw h1)
 ·exact .empty
theorem NF.altEnd {ks : List Rx} (h : ∀ x ∈ ks, NF x) (hk : kV ks) : NF (altEnd ks) := by
 match ks with
 |[] => exact .none
 |[x] => exact h x (by simp)
 |x :: y :: t => exact .alt (by simp) h hk
theorem NF.altP {l : List Rx} (h : ∀ x ∈ l, NF x) : NF (altP l) := NF.altEnd (NF.altOut (NF.flatR h)) (NF.altK (NF.flatR h))
theorem xP {s : List Int} (h : dI s = true) {f : List Rx} (hf : ∀ x, (∃ y ∈ f, x ∈ y.syms) ↔ x ∈ s) : bO f = s := by
 obtain ⟨h1, h2, h3⟩ := gW.1 h;refine mO (nV f) h2 fun x => ?_
 rw [iE, hf];exact ⟨fun h => h.2, fun h => ⟨h3 x h, h⟩⟩
theorem nO {ks : List Rx} (h : ∀ x ∈ ks, NF x) (hk : kV ks) : altOut ks = ks := by
 refine ql (nI ks) hk.srt fun z => ?_
 rw [fH];have hs : ∀ y ∈ ks, y.kind = 2 -> bO ks = y.syms := fun y hy hy2 => by
  refine xP ((h y hy).k2 hy2).2 fun s => ⟨fun ⟨x, hx, hxs⟩ => ?_, fun hs => ⟨y, hy, hs⟩⟩
  have hx2 : x.kind = 2 := by
   by_cases e : x.kind = 2
   ·exact e
   ·rw [(h x hx).syms e] at hxs; cases hxs
  rw [hk.one x hx y hy hx2 hy2] at hxs;exact hxs
 constructor
 ·rintro (⟨h1, h2⟩ | ⟨h1, rfl⟩ | ⟨h1, rfl⟩)
  ·exact h1
  ·obtain ⟨s, hs1⟩ : ∃ s, s ∈ bO ks := List.exists_mem_of_ne_nil _ h1;obtain ⟨_, y, hy, hys⟩ := iE.1 hs1;have hy2 : y.kind = 2 := by
    by_cases e : y.kind = 2
    ·exact e
    ·rw [(h y hy).syms e] at hys; cases hys
   rw [hs y hy hy2, <- ((h y hy).k2 hy2).1]; exact hy
  ·obtain ⟨⟨x, hx, hx1⟩, _⟩ := iM.1 h1;rw [<- (h x hx).k1 hx1]; exact hx
 ·intro hz;have h0 := hk.kin z hz;have hr := (h z hz).rng
  by_cases h2 : 2 < z.kind
  ·exact .inl ⟨hz, h2⟩
  ·by_cases e2 : z.kind = 2
   ·right; left
    rw [hs z hz e2];have h3 := (h z hz).k2 e2;exact ⟨(gW.1 h3.2).1, h3.1⟩
   ·right; right
    have e1 : z.kind = 1 := by omega
    exact ⟨iM.2 ⟨⟨z, hz, e1⟩, hk.emp ⟨z, hz, e1⟩⟩, (h z hz).k1 e1⟩
theorem iV : ∀ {F : List Rx}, (∀ x ∈ F, x.kind ≠ 4) -> flatR F = F
 |[], _ => rfl
 |x :: t, h => by
  show flt x ++ flatR t = _;rw [iV fun y hy => h y (by simp [hy])];unfold flt;rw [if_neg (h x (by simp))]
  rfl
theorem kK (A B : List Rx) : flatR (A ++ B) = flatR A ++ flatR B := List.flatMap_append
theorem qV (a : Rx) (B : List Rx) : flatR (a :: B) = flt a ++ flatR B := rfl
theorem Cs {ks : List Rx} (hk : ∀ x ∈ ks, x.kind ≠ 4) : flt (altEnd ks) = ks \/ (ks = [] /\ flt (altEnd ks) = [.mk 0 [] []]) := by
 match ks with
 |[] => exact .inr ⟨rfl, rfl⟩
 |[x] => left; show flt x = [x]; unfold flt; rw [if_neg (hk x (by simp))]
 |x :: y :: t => exact .inl rfl
theorem su {A F B : List Rx} (h : ∀ x ∈ F, NF x /\ x.kind ≠ 4) : gM (A ++ altOut F ++ B) (A ++ F ++ B) := by
 have hm : ∀ (X : List Rx) z, z ∈ A ++ X ++ B ↔ z ∈ A \/ z ∈ X \/ z ∈ B := fun X z => by simp [List.mem_append, or_assoc]
 refine ⟨fun z hz => ?_, fun s => ?_, fun hn => ?_⟩
 ·rw [hm, hm, fH];have : (z ∈ F /\ 2 < z.kind \/ bO F ≠ [] /\ z = .mk 2 (bO F) [] \/ gQ F = true /\ z = .mk 1 [] []) ↔ z ∈ F := by
   constructor
   ·rintro (⟨h1, _⟩ | ⟨_, rfl⟩ | ⟨_, rfl⟩)
    ·exact h1
    ·simp [Rx.kind] at hz
    ·simp [Rx.kind] at hz
   ·exact fun h1 => .inl ⟨h1, hz⟩
  rw [this]
 ·constructor
  ·rintro ⟨x, hx, hs⟩
   rcases (hm _ x).1 hx with h1 | h1 | h1
   ·exact ⟨x, (hm _ x).2 (.inl h1), hs⟩
   ·rcases fH.1 h1 with ⟨h2, _⟩ | ⟨_, rfl⟩ | ⟨_, rfl⟩
    ·exact ⟨x, (hm _ x).2 (.inr (.inl h2)), hs⟩
    ·obtain ⟨_, y, hy, hys⟩ := iE.1 hs;exact ⟨y, (hm _ y).2 (.inr (.inl hy)), hys⟩
    ·cases hs
   ·exact ⟨x, (hm _ x).2 (.inr (.inr h1)), hs⟩
  ·rintro ⟨x, hx, hs⟩
   rcases (hm _ x).1 hx with h1 | h1 | h1
   ·exact ⟨x, (hm _ x).2 (.inl h1), hs⟩
   ·have h2 : s ∈ bO F := iE.2 ⟨(h x h1).1.sym_in s hs, x, h1, hs⟩;exact ⟨.mk 2 (bO F) [], (hm _ _).2 (.inr (.inl (fH.2 (.inr (.inl ⟨List.ne_nil_of_mem h2, rfl⟩))))), h2⟩
   ·exact ⟨x, (hm _ x).2 (.inr (.inr h1)), hs⟩
 ·have hF : ∀ x ∈ F, 2 < x.kind -> aL x = false := fun x hx hk => hn x ((hm _ x).2 (.inr (.inl (fH.2 (.inl ⟨hx, hk⟩))))) hk
  constructor
  ·rintro ⟨x, hx, hs⟩
   rcases (hm _ x).1 hx with h1 | h1 | h1
   ·exact ⟨x, (hm _ x).2 (.inl h1), hs⟩
   ·rcases fH.1 h1 with ⟨h2, h3⟩ | ⟨_, rfl⟩ | ⟨h2, rfl⟩
    ·omega
    ·simp [Rx.kind] at hs
    ·obtain ⟨⟨y, hy, hy1⟩, _⟩ := iM.1 h2;exact ⟨y, (hm _ y).2 (.inr (.inl hy)), hy1⟩
   ·exact ⟨x, (hm _ x).2 (.inr (.inr h1)), hs⟩
  ·rintro ⟨x, hx, hs⟩
   rcases (hm _ x).1 hx with h1 | h1 | h1
   ·exact ⟨x, (hm _ x).2 (.inl h1), hs⟩
   ·exact ⟨.mk 1 [] [], (hm _ _).2 (.inr (.inl (fH.2 (.inr (.inr ⟨iM.2 ⟨⟨x, h1, hs⟩, hF⟩, rfl⟩))))), rfl⟩
   ·exact ⟨x, (hm _ x).2 (.inr (.inr h1)), hs⟩
theorem gM.drop0 {A B : List Rx} : gM (A ++ [.mk 0 [] []] ++ B) (A ++ [] ++ B) := by
 have hm : ∀ z : Rx, z.kind ≠ 0 -> (z ∈ A ++ [.mk 0 [] []] ++ B ↔ z ∈ A ++ [] ++ B) := fun z hz => by
  have : z ≠ .mk 0 [] [] := fun e => hz (by rw [e]; rfl)
  simp [List.mem_append, this]
 refine ⟨fun z hz => hm z (by omega), fun s => ⟨fun ⟨x, hx, hs⟩ => ?_, fun ⟨x, hx, hs⟩ => ?_⟩, fun _ => ⟨fun ⟨x, hx, hs⟩ => ⟨x, (hm x (by omega)).1 hx, hs⟩, fun ⟨x, hx, hs⟩ => ⟨x, (hm x (by omega)).2 hx, hs⟩⟩⟩
 ·by_cases e : x = .mk 0 [] []
  ·subst e; cases hs
  ·exact ⟨x, by simpa [e] using hx, hs⟩
 ·exact ⟨x, by simp at hx ⊢; rcases hx with h | h <;> simp [h], hs⟩
theorem Dz {A M B : List Rx} (h : ∀ x ∈ M, NF x) : altP (A ++ altP M :: B) = altP (A ++ M ++ B) := by
 unfold altP;rw [kK, qV, kK, kK];have hF := NF.flatR h
 congr 1
 rw [<- List.append_assoc]
 rcases Cs (ks := altOut (flatR M)) fun x hx => ((NF.altK hF).kin x hx).2 with e | ⟨e1, e2⟩
 ·rw [e];exact (su hF).alt
 ·rw [e2, gM.drop0.alt, <- e1];exact (su hF).alt
theorem yI {x : Rx} (h : NF x) : altP [x] = x := by
 unfold altP
 by_cases h4 : x.kind = 4
 ·obtain ⟨e, h1, h2⟩ := h.k4 h4;have : flatR [x] = x.kids := by show flt x ++ [] = _; unfold flt; rw [if_pos h4, List.append_nil]
  rw [this, nO h.kids h2]
  match hk : x.kids, h1 with
  |a :: b :: t, _ => rw [e, hk]; rfl
 ·rw [iV (by intro y hy; rw [show y = x by simpa using hy]; exact h4)]
  by_cases h0 : x.kind = 0
  ·rw [h.k0 h0]; rfl
  ·rw [nO (by intro y hy; rw [show y = x by simpa using hy]; exact h) ⟨by intro y hy; rw [show y = x by simpa using hy]; exact ⟨h0, h4⟩, List.pairwise_singleton _ _, by
    intro y hy z hz _ _;rw [show y = x by simpa using hy, show z = x by simpa using hz], by
    rintro ⟨y, hy, h1⟩ z hz h2;rw [show y = x by simpa using hy] at h1;rw [show z = x by simpa using hz] at h2;omega⟩]
   rfl
end Rgx
section
namespace Rgx
inductive bK (P : List Int -> Prop) : List Int -> Prop where
 |nil : bK P []
 |app {u v : List Int} : P u -> u ≠ [] -> bK P v -> bK P (u ++ v)
mutual
def bf : Rx -> List Int -> Prop
 |.mk k s ks, w => if k = 1 then w = [] else if k = 2 then ∃ x ∈ s, w = [x] else if k = 3 then cK ks w else if k = 4 then il ks w else if k = 5 then lS ks w else False
def cK : List Rx -> List Int -> Prop
 |[], w => w = []
 |r :: rs, w => ∃ u v, w = u ++ v /\ bf r u /\ cK rs v
def il : List Rx -> List Int -> Prop
 |[], _ => False
 |r :: rs, w => bf r w \/ il rs w
def lS : List Rx -> List Int -> Prop
 |[], w => w = []
 |r :: _, w => bK (bf r) w
end
theorem kU (r : Rx) (w : List Int) : bf r w ↔ if r.kind = 1 then w = [] else if r.kind = 2 then ∃ x ∈ r.syms, w = [x] else if r.kind = 3 then cK r.kids w else if r.kind = 4 then il r.kids w else if r.kind = 5 then lS r.kids w else False := by
 cases r with
 |mk k s ks => rw [bf]; rfl
theorem iY {r : Rx} (h : r.kind = 0) (w : List Int) : ¬ bf r w := by rw [kU, h]; simp
theorem gU {r : Rx} (h : r.kind = 1) (w : List Int) : bf r w ↔ w = [] := by rw [kU, h]; simp
theorem jP {r : Rx} (h : r.kind = 2) (w : List Int) : bf r w ↔ ∃ x ∈ r.syms, w = [x] := by rw [kU, h]; simp
theorem jT {r : Rx} (h : r.kind = 3) (w : List Int) : bf r w ↔ cK r.kids w := by rw [kU, h]; simp
theorem jC {r : Rx} (h : r.kind = 4) (w : List Int) : bf r w ↔ il r.kids w := by rw [kU, h]; simp
theorem Da {r : Rx} (h : r.kind = 5) (w : List Int) : bf r w ↔ lS r.kids w := by rw [kU, h]; simp
theorem gZ : ∀ {ks : List Rx} {w : List Int}, il ks w ↔ ∃ x ∈ ks, bf x w
 |[], w => by rw [il]; simp
 |r :: rs, w => by rw [il, gZ]; simp
theorem jA {w : List Int} : cK [] w ↔ w = [] := by rw [cK]
theorem gT {r : Rx} {rs : List Rx} {w : List Int} : cK (r :: rs) w ↔ ∃ u v, w = u ++ v /\ bf r u /\ cK rs v := by rw [cK]
theorem pR : ∀ {A B : List Rx} {w : List Int}, cK (A ++ B) w ↔ ∃ u v, w = u ++ v /\ cK A u /\ cK B v
 |[], B, w => by
  constructor
  ·exact fun h => ⟨[], w, rfl, jA.2 rfl, h⟩
  ·rintro ⟨u, v, rfl, hu, hv⟩;rw [jA.1 hu]; exact hv
 |r :: A, B, w => by
  rw [List.cons_append, gT];constructor
  ·rintro ⟨u, v, rfl, hu, hv⟩;obtain ⟨v1, v2, rfl, h1, h2⟩ := pR.1 hv;exact ⟨u ++ v1, v2, by rw [List.append_assoc], gT.2 ⟨u, v1, rfl, hu, h1⟩, h2⟩
  ·rintro ⟨u, v, rfl, hu, hv⟩;obtain ⟨u1, u2, rfl, h1, h2⟩ := gT.1 hu;exact ⟨u1, u2 ++ v, by rw [List.append_assoc], h1, pR.2 ⟨u2, v, rfl, h2, hv⟩⟩
theorem mg {x : Rx} {w : List Int} : cK [x] w ↔ bf x w := by
 rw [gT];constructor
 ·rintro ⟨u, v, rfl, hu, hv⟩;rw [jA.1 hv, List.append_nil]; exact hu
 ·exact fun h => ⟨w, [], by rw [List.append_nil], h, jA.2 rfl⟩
section
variable {P Q : List Int -> Prop}
theorem bK.cons {u v : List Int} (hu : P u) (hv : bK P v) : bK P (u ++ v) := by
 by_cases h : u = []
 ·subst h; exact hv
 ·exact .app hu h hv
theorem bK.one {u : List Int} (hu : P u) : bK P u := by
 have := bK.cons hu bK.nil
 rwa [List.append_nil] at this
theorem bK.join {u v : List Int} (hu : bK P u) (hv : bK P v) : bK P (u ++ v) := by
 induction hu with
 |nil => exact hv
 |app h1 h2 _ ih => rw [List.append_assoc]; exact .app h1 h2 ih
theorem bK.mono (h : ∀ w, w ≠ [] -> P w -> Q w) {w : List Int} (hw : bK P w) : bK Q w := by
 induction hw with
 |nil => exact .nil
 |app h1 h2 _ ih => exact .app (h _ h2 h1) h2 ih
theorem bK.flat {w : List Int} (hw : bK (bK P) w) : bK P w := by
 induction hw with
 |nil => exact .nil
 |app h1 _ _ ih => exact h1.join ih
theorem bK.congr (h : ∀ w, w ≠ [] -> (P w ↔ Q w)) (w : List Int) : bK P w ↔ bK Q w := ⟨bK.mono fun w hw => (h w hw).1, bK.mono fun w hw => (h w hw).2⟩
theorem bK.step {s : Int} {w : List Int} : bK P (s :: w) ↔ ∃ u v, w = u ++ v /\ P (s :: u) /\ bK P v := by
 constructor
 ·intro h
  generalize e : s :: w = x at h
  cases h with
  |nil => cases e
  |@app u v h1 h2 h3 =>
   cases u with
   |nil => exact absurd rfl h2
   |cons a u =>
    rw [List.cons_append] at e
    injection e with e1 e2
    exact ⟨u, v, e2, e1 ▸ h1, h3⟩
 ·rintro ⟨u, v, rfl, h1, h2⟩;exact .app (u := s :: u) h1 (by simp) h2
theorem bK.rev {w : List Int} (h : bK P w) : bK (fun u => P u.reverse) w.reverse := by
 induction h with
 |nil => exact .nil
 |app h1 h2 _ ih =>
  rw [List.reverse_append];exact ih.join (bK.one (by show P _; rw [List.reverse_reverse]; exact h1))
end
theorem Rx.ind {P : Rx -> Prop} (h : ∀ r, (∀ x ∈ r.kids, P x) -> P r) (r : Rx) : P r := by
 have H : ∀ (z : Nat) (r : Rx), SizeOf.sizeOf r <= z -> P r := by
  intro z
  induction z with
  |zero => intro r hz; exact absurd hz (by cases r; rw [Rx.mk.sizeOf_spec]; omega)
  |succ z ih => intro r hz; exact h r fun x hx => ih x (by have := gB hx; omega)
 exact H _ r (Nat.le_refl _)
theorem Fv {ks : List Rx} : cK ks [] ↔ ∀ x ∈ ks, bf x [] := by
 induction ks with
 |nil => simp [jA]
 |cons r rs ih =>
  rw [gT];constructor
  ·rintro ⟨u, v, e, hu, hv⟩ x hx;obtain ⟨rfl, rfl⟩ := List.append_eq_nil_iff.1 e.symm
   rcases List.mem_cons.1 hx with rfl | hx
   ·exact hu
   ·exact ih.1 hv x hx
  ·intro h;exact ⟨[], [], rfl, h r (by simp), ih.2 fun x hx => h x (by simp [hx])⟩
theorem lN (r : Rx) : aL r = true ↔ bf r [] := by
 induction r using Rx.ind with
 |h r ih =>
  rw [qz]
  by_cases h3 : r.kind = 3
  ·rw [if_pos h3, jT h3, Fv, List.all_eq_true];exact ⟨fun h x hx => (ih x hx).1 (h x hx), fun h x hx => (ih x hx).2 (h x hx)⟩
  ·rw [if_neg h3]
   by_cases h4 : r.kind = 4
   ·rw [if_pos h4, jC h4, gZ, List.any_eq_true];exact ⟨fun ⟨x, hx, h⟩ => ⟨x, hx, (ih x hx).1 h⟩, fun ⟨x, hx, h⟩ => ⟨x, hx, (ih x hx).2 h⟩⟩
   ·rw [if_neg h4, decide_eq_true_eq, kU, if_neg h3, if_neg h4]
    by_cases h1 : r.kind = 1
    ·simp [h1]
    ·rw [if_neg h1]
     by_cases h2 : r.kind = 2
     ·rw [if_pos h2]; simp [h2]
     ·rw [if_neg h2]
      by_cases h5 : r.kind = 5
      ·rw [if_pos h5];refine ⟨fun _ => ?_, fun _ => .inr h5⟩
       cases r.kids with
       |nil => rw [lS]
       |cons x xs => rw [lS]; exact .nil
      ·rw [if_neg h5]; simp [h1, h5]
theorem vv (x : Rx) (h0 : x.kind ≠ 0) (w : List Int) : cK (spl x) w ↔ bf x w := by
 unfold spl
 by_cases h3 : x.kind = 3
 ·rw [if_pos h3, jT h3]
 ·rw [if_neg h3]
  by_cases h1 : x.kind = 1
  ·rw [if_pos h1, gU h1, jA]
  ·rw [if_neg h1, mg]
theorem Bq (F : List Rx) (w : List Int) : bf (seqEnd F) w ↔ cK F w := by
 match F with
 |[] => rw [gU rfl, jA]
 |[x] => rw [mg]; rfl
 |x :: y :: t => rw [show seqEnd (x :: y :: t) = .mk 3 [] (x :: y :: t) from rfl, jT rfl]; rfl
theorem rV : ∀ (l : List Rx), l.any (fun x => decide (x.kind = 0)) = false -> ∀ w, cK (l.flatMap spl) w ↔ cK l w
 |[], _, w => Iff.rfl
 |x :: l, h, w => by
  rw [List.any_cons, Bool.or_eq_false_iff] at h;rw [List.flatMap_cons, pR, gT];constructor
  ·rintro ⟨u, v, e, hu, hv⟩;exact ⟨u, v, e, (vv x (by simpa using h.1) u).1 hu, (rV l h.2 v).1 hv⟩
  ·rintro ⟨u, v, e, hu, hv⟩;exact ⟨u, v, e, (vv x (by simpa using h.1) u).2 hu, (rV l h.2 v).2 hv⟩
theorem uI : ∀ {l : List Rx} {w : List Int}, cK l w -> l.any (fun x => decide (x.kind = 0)) = false
 |[], w, _ => rfl
 |x :: l, w, h => by
  obtain ⟨u, v, _, hu, hv⟩ := gT.1 h;rw [List.any_cons, uI hv];have : x.kind ≠ 0 := fun e => iY e u hu
  simp [this]
theorem FB (l : List Rx) (w : List Int) : bf (seqP l) w ↔ cK l w := by
 rw [iH]
 by_cases h0 : l.any (fun x => decide (x.kind = 0)) = true
 ·rw [if_pos h0];constructor
  ·exact fun h => absurd h (iY rfl w)
  ·intro h;rw [uI h] at h0; cases h0
 ·rw [if_neg h0, Bq, rV l (by simpa using h0)]
theorem Gf (F : List Rx) (w : List Int) : bf (altEnd F) w ↔ ∃ x ∈ F, bf x w := by
 match F with
 |[] => rw [show altEnd [] = .mk 0 [] [] from rfl]; simp; exact iY rfl w
 |[x] => simp [altEnd]
 |x :: y :: t => rw [show altEnd (x :: y :: t) = .mk 4 [] (x :: y :: t) from rfl, jC rfl, gZ]; rfl
theorem F8 {F : List Rx} (h : ∀ x ∈ F, NF x) (w : List Int) : (∃ x ∈ altOut F, bf x w) ↔ ∃ x ∈ F, bf x w := by
 constructor
 ·rintro ⟨x, hx, hl⟩
  rcases fH.1 hx with ⟨h1, _⟩ | ⟨_, rfl⟩ | ⟨h1, rfl⟩
  ·exact ⟨x, h1, hl⟩
  ·obtain ⟨s, hs, rfl⟩ := (jP rfl w).1 hl;obtain ⟨_, y, hy, hys⟩ := iE.1 hs;have hy2 : y.kind = 2 := by
    by_cases e : y.kind = 2
    ·exact e
    ·rw [(h y hy).syms e] at hys; cases hys
   exact ⟨y, hy, (jP hy2 _).2 ⟨s, hys, rfl⟩⟩
  ·obtain ⟨⟨y, hy, hy1⟩, _⟩ := iM.1 h1;exact ⟨y, hy, (gU hy1 w).2 ((gU rfl w).1 hl)⟩
 ·rintro ⟨x, hx, hl⟩;have hr := (h x hx).rng
  by_cases h2 : 2 < x.kind
  ·exact ⟨x, fH.2 (.inl ⟨hx, h2⟩), hl⟩
  ·by_cases e2 : x.kind = 2
   ·obtain ⟨s, hs, rfl⟩ := (jP e2 w).1 hl;have h3 : s ∈ bO F := iE.2 ⟨(h x hx).sym_in s hs, x, hx, hs⟩;exact ⟨_, fH.2 (.inr (.inl ⟨List.ne_nil_of_mem h3, rfl⟩)), (jP rfl _).2 ⟨s, h3, rfl⟩⟩
   ·by_cases e1 : x.kind = 1
    ·obtain rfl := (gU e1 w).1 hl
     by_cases hc : ∀ y ∈ F, 2 < y.kind -> aL y = false
     ·exact ⟨.mk 1 [] [], fH.2 (.inr (.inr ⟨iM.2 ⟨⟨x, hx, e1⟩, hc⟩, rfl⟩)), (gU rfl _).2 rfl⟩
     ·obtain ⟨y, hy⟩ := Classical.not_forall.1 hc;obtain ⟨hy, hk⟩ := Classical.not_imp.1 hy;obtain ⟨hk, ha⟩ := Classical.not_imp.1 hk;exact ⟨y, fH.2 (.inl ⟨hy, hk⟩), (lN y).1 (by simpa using ha)⟩
    ·exact absurd hl (iY (by omega) w)
theorem xK {x : Rx} (w : List Int) : (∃ y ∈ flt x, bf y w) ↔ bf x w := by
 unfold flt
 by_cases h4 : x.kind = 4
 ·rw [if_pos h4, jC h4, gZ]
 ·rw [if_neg h4]; simp
theorem ut {l : List Rx} (h : ∀ x ∈ l, NF x) (w : List Int) : bf (altP l) w ↔ ∃ x ∈ l, bf x w := by
 unfold altP;rw [Gf, F8 fun x hx => (NF.flatR h x hx).1];constructor
 ·rintro ⟨y, hy, hl⟩;obtain ⟨x, hx, hy⟩ := List.mem_flatMap.1 hy;exact ⟨x, hx, (xK w).1 ⟨y, hy, hl⟩⟩
 ·rintro ⟨x, hx, hl⟩;obtain ⟨y, hy, hl⟩ := (xK w).2 hl;exact ⟨y, List.mem_flatMap.2 ⟨x, hx, hy⟩, hl⟩
theorem iC {x : Rx} {s : List Int} (w : List Int) : bf (.mk 5 s [x]) w ↔ bK (bf x) w := by
 rw [Da rfl, show (Rx.mk 5 s [x]).kids = [x] from rfl, lS]
theorem GD {x : Rx} (h : NF x) (w : List Int) : bf (starP x) w ↔ bK (bf x) w := by
 unfold starP
 by_cases h01 : x.kind = 0 \/ x.kind = 1
 ·rw [if_pos h01, gU rfl];constructor
  ·rintro rfl; exact .nil
  ·intro hs;have : ∀ u, bf x u -> u = [] := fun u hu => by
    rcases h01 with e | e
    ·exact absurd hu (iY e u)
    ·exact (gU e u).1 hu
   cases hs with
   |nil => rfl
   |app h1 h2 _ => exact absurd (this _ h1) h2
 ·rw [if_neg h01]
  by_cases h5 : x.kind = 5
  ·rw [if_pos h5];obtain ⟨y, rfl, _⟩ := h.k5 h5;rw [iC];constructor
   ·exact fun hs => .one ((iC w).2 hs)
   ·exact fun hs => (hs.mono fun u _ hu => (iC u).1 hu).flat
  ·rw [if_neg h5, iC]
   by_cases h4 : x.kind = 4
   ·rw [if_pos h4];refine bK.congr (fun u hu => ?_) w;rw [ut fun y hy => h.kids y (List.mem_filter.1 hy).1, jC h4, gZ];constructor
    ·rintro ⟨y, hy, hl⟩; exact ⟨y, (List.mem_filter.1 hy).1, hl⟩
    ·rintro ⟨y, hy, hl⟩;refine ⟨y, List.mem_filter.2 ⟨hy, ?_⟩, hl⟩;have : y.kind ≠ 1 := fun e => hu ((gU e u).1 hl)
     simpa using this
   ·rw [if_neg h4]
theorem eT {r : Rx} (h : ay r = true) : r = .mk 0 [] [] \/ r = .mk 1 [] [] \/ (∃ s, r = .mk 2 s [] /\ dI s = true) \/ (∃ ks, r = .mk 3 [] ks /\ ∀ x ∈ ks, ay x = true) \/ (∃ ks, r = .mk 4 [] ks /\ ∀ x ∈ ks, ay x = true) \/ ∃ x, r = .mk 5 [] [x] /\ ay x = true := by
 cases r with
 |mk k s ks =>
  rw [ay, tH] at h
  by_cases h1 : k < 0 \/ 5 < k
  ·rw [if_pos h1] at h; cases h
  ·rw [if_neg h1] at h
   by_cases h2 : k = 2
   ·rw [if_pos h2, Bool.and_eq_true, decide_eq_true_eq, List.length_eq_zero_iff] at h;obtain ⟨h3, rfl⟩ := h;subst h2;exact .inr (.inr (.inl ⟨s, rfl, h3⟩))
   ·rw [if_neg h2] at h
    by_cases h3 : 0 < s.length \/ (k <= 1 /\ 0 < ks.length) \/ (k = 5 /\ ks.length ≠ 1)
    ·rw [if_pos h3] at h; cases h
    ·rw [if_neg h3, List.all_eq_true] at h;obtain rfl : s = [] := List.eq_nil_of_length_eq_zero (by omega)
     rcases (by omega : k = 0 \/ k = 1 \/ k = 3 \/ k = 4 \/ k = 5) with e | e | e | e | e
     ·subst e; obtain rfl : ks = [] := List.eq_nil_of_length_eq_zero (by omega);exact .inl rfl
     ·subst e; obtain rfl : ks = [] := List.eq_nil_of_length_eq_zero (by omega);exact .inr (.inl rfl)
     ·subst e; exact .inr (.inr (.inr (.inl ⟨ks, rfl, h⟩)))
     ·subst e; exact .inr (.inr (.inr (.inr (.inl ⟨ks, rfl, h⟩))))
     ·subst e;obtain ⟨x, rfl⟩ := List.length_eq_one_iff.1 (by omega : ks.length = 1);exact .inr (.inr (.inr (.inr (.inr ⟨x, rfl, h x (by simp)⟩))))
theorem eF {r : Rx} (h : ay r = true) : ∀ x ∈ r.kids, ay x = true := by
 rcases eT h with rfl | rfl | ⟨s, rfl, _⟩ | ⟨ks, rfl, hv⟩ | ⟨ks, rfl, hv⟩ | ⟨x, rfl, hv⟩
 ·intro x hx; cases hx
 ·intro x hx; cases hx
 ·intro x hx; cases hx
 ·exact hv
 ·exact hv
 ·intro y hy; rw [show y = x by simpa [Rx.kids] using hy]; exact hv
theorem NF.val {x : Rx} (h : NF x) : ay x = true := by
 induction h with
 |none => rfl
 |empty => rfl
 |set h => rw [gH]; simp [Rx.kind, Rx.syms, Rx.kids, h]
 |seq _ _ _ ih => rw [gH]; simpa [Rx.kind, Rx.syms, Rx.kids] using ih
 |alt _ _ _ ih => rw [gH]; simpa [Rx.kind, Rx.syms, Rx.kids] using ih
 |star _ _ _ ih => rw [gH]; simpa [Rx.kind, Rx.syms, Rx.kids] using ih
theorem NF.starP {x : Rx} (h : NF x) : NF (starP x) := by
 unfold Rgx.starP
 by_cases h01 : x.kind = 0 \/ x.kind = 1
 ·rw [if_pos h01]; exact .empty
 ·rw [if_neg h01]
  by_cases h5 : x.kind = 5
  ·rw [if_pos h5]; exact h
  ·rw [if_neg h5]
   by_cases h4 : x.kind = 4
   ·rw [if_pos h4];obtain ⟨e, hl, hk⟩ := h.k4 h4;have hK : kV (x.kids.filter fun y => decide (y.kind ≠ 1)) := ⟨fun y hy => hk.kin y (List.mem_filter.1 hy).1, hk.srt.filter _, fun y hy z hz => hk.one y (List.mem_filter.1 hy).1 z (List.mem_filter.1 hz).1, fun ⟨y, hy, h1⟩ => by
     have := (List.mem_filter.1 hy).2;simp [h1] at this⟩
    have hN : ∀ y ∈ x.kids.filter (fun y => decide (y.kind ≠ 1)), NF y := fun y hy => h.kids y (List.mem_filter.1 hy).1
    have e1 : Rgx.altP (x.kids.filter fun y => decide (y.kind ≠ 1)) = Rgx.altEnd (x.kids.filter fun y => decide (y.kind ≠ 1)) := by
     unfold Rgx.altP;rw [iV fun y hy => (hK.kin y hy).2, nO hN hK]
    rw [e1];have h1 : ∀ y ∈ x.kids.filter (fun y => decide (y.kind ≠ 1)), y.kind ≠ 1 := fun y hy => by simpa using (List.mem_filter.1 hy).2
    by_cases hE : ∃ y ∈ x.kids, y.kind = 1
    ·have ha := hk.emp hE;obtain ⟨G, hG⟩ : ∃ G, G = x.kids.filter (fun y => decide (y.kind ≠ 1)) := ⟨_, rfl⟩;rw [<- hG] at hK hN h1 ⊢;have hsub : ∀ y ∈ G, y ∈ x.kids := fun y hy => by rw [hG] at hy; exact (List.mem_filter.1 hy).1
     match G, hG, hK, hN, h1, hsub with
     |[], hF, _, _, _, _ =>
      exfalso
      have h2 : ∀ y ∈ x.kids, y = .mk 1 [] [] := fun y hy => by
       refine (h.kids y hy).k1 ?_
       apply Classical.byContradiction
       intro e;have : y ∈ x.kids.filter (fun y => decide (y.kind ≠ 1)) := List.mem_filter.2 ⟨hy, by simpa using e⟩;rw [<- hF] at this; cases this
      match hq : x.kids, hl with
      |a :: b :: t, _ =>
       have hs := hk.srt;rw [hq] at hs;have h3 := (List.pairwise_cons.1 hs).1 b (by simp);rw [h2 a (by rw [hq]; simp), h2 b (by rw [hq]; simp)] at h3;exact h3.irr
     |[y], _, hK, hN, h1, hsub =>
      have h2 := hK.kin y (by simp);refine .star (hN y (by simp)) ⟨h2.1, h1 y (by simp), fun e => ?_⟩ fun e => absurd e h2.2
      have e2 : y.kind = 5 := e;have := ha y (hsub y (by simp)) (by omega);rw [qz] at this;simp [e2] at this
     |a :: b :: t, _, hK, hN, h1, _ => exact .star (.alt (by simp) hN hK) (by simp [Rgx.altEnd, Rx.kind]) fun _ => h1
    ·have hF : x.kids.filter (fun y => decide (y.kind ≠ 1)) = x.kids := List.filter_eq_self.2 fun y hy => by
      have : y.kind ≠ 1 := fun e => hE ⟨y, hy, e⟩
      simpa using this
     rw [hF];rw [hF] at h1
     match hq : x.kids, hl with
     |a :: b :: t, _ =>
      rw [hq] at hk h1;have hN2 := h.kids;rw [hq] at hN2;exact .star (.alt (by simp) hN2 hk) (by simp [Rgx.altEnd, Rx.kind]) fun _ => h1
   ·rw [if_neg h4];exact .star h ⟨fun e => h01 (.inl e), fun e => h01 (.inr e), h5⟩ fun e => absurd e h4
theorem NF.normR {r : Rx} (t : Bool) (h : ay r = true) : NF (normR t r) := by
 induction r using Rx.ind with
 |h r ih =>
  have hk : ∀ y ∈ r.kids.map (Rgx.normR t), NF y := fun y hy => by
   obtain ⟨x, hx, rfl⟩ := List.mem_map.1 hy;exact ih x hx (eF h x hx)
  rw [bX]
  by_cases h3 : r.kind = 3
  ·rw [if_pos h3];refine NF.seqP fun y hy => hk y ?_
   cases t
   ·exact hy
   ·exact List.mem_reverse.1 hy
  ·rw [if_neg h3]
   by_cases h4 : r.kind = 4
   ·rw [if_pos h4]; exact NF.altP hk
   ·rw [if_neg h4]
    rcases eT h with rfl | rfl | ⟨s, rfl, hs⟩ | ⟨ks, rfl, _⟩ | ⟨ks, rfl, _⟩ | ⟨x, rfl, _⟩
    ·exact .none
    ·exact .empty
    ·exact .set hs
    ·exact absurd rfl h3
    ·exact absurd rfl h4
    ·rw [if_pos (show (Rx.mk 5 [] [x]).kind = 5 from rfl)];exact NF.starP (hk _ (by simp [Rx.kids]))
theorem EL {f : Rx -> Rx} {ks : List Rx} (h : ∀ x ∈ ks, ∀ w, bf (f x) w ↔ bf x w) : ∀ w, cK (ks.map f) w ↔ cK ks w := by
 induction ks with
 |nil => intro w; exact Iff.rfl
 |cons r rs ih =>
  intro w;rw [List.map_cons, gT, gT];have ih2 := ih fun x hx => h x (by simp [hx])
  constructor
  ·rintro ⟨u, v, e, hu, hv⟩; exact ⟨u, v, e, (h r (by simp) u).1 hu, (ih2 v).1 hv⟩
  ·rintro ⟨u, v, e, hu, hv⟩; exact ⟨u, v, e, (h r (by simp) u).2 hu, (ih2 v).2 hv⟩
theorem FP {f : Rx -> Rx} {ks : List Rx} (h : ∀ x ∈ ks, ∀ w, bf (f x) w.reverse ↔ bf x w) : ∀ w, cK (ks.map f).reverse w.reverse ↔ cK ks w := by
 induction ks with
 |nil => intro w; simp [jA]
 |cons r rs ih =>
  intro w;have ih2 := ih fun x hx => h x (by simp [hx])
  rw [List.map_cons, List.reverse_cons, pR, gT];constructor
  ·rintro ⟨u, v, e, hu, hv⟩;refine ⟨v.reverse, u.reverse, by rw [<- List.reverse_append, <- e, List.reverse_reverse], ?_, ?_⟩
   ·exact (h r (by simp) _).1 (by rw [List.reverse_reverse]; exact mg.1 hv)
   ·exact (ih2 _).1 (by rw [List.reverse_reverse]; exact hu)
  ·rintro ⟨u, v, rfl, hu, hv⟩;exact ⟨v.reverse, u.reverse, by rw [List.reverse_append], (ih2 v).2 hv, mg.2 ((h r (by simp) u).2 hu)⟩
theorem BZ {r : Rx} (t : Bool) (h : ay r = true) : ∀ w, bf (normR t r) (if t then w.reverse else w) ↔ bf r w := by
 induction r using Rx.ind with
 |h r ih =>
  intro w;have ih2 : ∀ x ∈ r.kids, ∀ w, bf (normR t x) (if t then w.reverse else w) ↔ bf x w := fun x hx => ih x hx (eF h x hx)
  have hN : ∀ y ∈ r.kids.map (normR t), NF y := fun y hy => by
   obtain ⟨x, hx, rfl⟩ := List.mem_map.1 hy;exact NF.normR t (eF h x hx)
  rw [bX]
  by_cases h3 : r.kind = 3
  ·rw [if_pos h3, FB, jT h3]
   cases t
   ·exact EL (fun x hx w => by simpa using ih2 x hx w) w
   ·exact FP (fun x hx w => by simpa using ih2 x hx w) w
  ·rw [if_neg h3]
   by_cases h4 : r.kind = 4
   ·rw [if_pos h4, ut hN, jC h4, gZ];constructor
    ·rintro ⟨y, hy, hl⟩;obtain ⟨x, hx, rfl⟩ := List.mem_map.1 hy;exact ⟨x, hx, (ih2 x hx w).1 hl⟩
    ·rintro ⟨x, hx, hl⟩;exact ⟨_, List.mem_map.2 ⟨x, hx, rfl⟩, (ih2 x hx w).2 hl⟩
   ·rw [if_neg h4]
    by_cases h5 : r.kind = 5
    ·rw [if_pos h5]
     rcases eT h with rfl | rfl | ⟨s, rfl, hs⟩ | ⟨ks, rfl, _⟩ | ⟨ks, rfl, _⟩ | ⟨x, rfl, hx⟩
     ·cases h5
     ·cases h5
     ·cases h5
     ·cases h5
     ·cases h5
     ·have hn : NF (normR t x) := NF.normR t hx;rw [show ((Rx.mk 5 [] [x]).kids.map (normR t)).headD (.mk 0 [] []) = normR t x from rfl, GD hn, iC];have ih3 := ih2 x (by simp [Rx.kids])
      cases t
      ·exact bK.congr (fun u _ => by simpa using ih3 u) w
      ·constructor
       ·intro hs;have := hs.rev;simp only [if_true, List.reverse_reverse] at this ih3;exact this.mono fun u _ hu => (ih3 u).1 hu
       ·intro hs;have := hs.rev;simp only [if_true] at ih3 ⊢;exact this.mono fun u _ hu => by
         have := (ih3 u.reverse).2 hu
         rwa [List.reverse_reverse] at this
    ·rw [if_neg h5]
     cases t
     ·exact Iff.rfl
     ·simp only [if_true]
      rcases eT h with rfl | rfl | ⟨s, rfl, hs⟩ | ⟨ks, rfl, _⟩ | ⟨ks, rfl, _⟩ | ⟨x, rfl, hx⟩
      ·exact ⟨fun h => absurd h (iY rfl _), fun h => absurd h (iY rfl _)⟩
      ·rw [gU rfl, gU rfl, List.reverse_eq_nil_iff]
      ·rw [jP rfl, jP rfl];constructor
       ·rintro ⟨x, hx, e⟩; exact ⟨x, hx, by rw [<- List.reverse_reverse w, e]; rfl⟩
       ·rintro ⟨x, hx, rfl⟩; exact ⟨x, hx, rfl⟩
      ·exact absurd rfl h3
      ·exact absurd rfl h4
      ·exact absurd rfl h5
theorem yU {r : Rx} (t : Bool) (h : ay r = true) : aL (normR t r) = aL r := by
 rw [Bool.eq_iff_iff, lN, lN];have := BZ t h []
 cases t <;> simpa using this
mutual
def cZ (s : Int) : Rx -> Rx
 |.mk k ss ks => if k = 2 then (if ss.contains s then .mk 1 [] [] else .mk 0 [] []) else if k = 5 then .mk 3 [] [jZ s ks, .mk k ss ks] else if k <= 1 then .mk 0 [] [] else .mk 4 [] (if k = 3 then fQ s ks else lZ s ks)
def jZ (s : Int) : List Rx -> Rx
 |[] => .mk 0 [] []
 |r :: _ => cZ s r
def fQ (s : Int) : List Rx -> List Rx
 |[] => []
 |r :: rs => .mk 3 [] (cZ s r :: rs) :: if aL r then fQ s rs else []
def lZ (s : Int) : List Rx -> List Rx
 |[] => []
 |r :: rs => cZ s r :: lZ s rs
end
theorem jY (s : Int) (r : Rx) : cZ s r = if r.kind = 2 then (if r.syms.contains s then .mk 1 [] [] else .mk 0 [] []) else if r.kind = 5 then .mk 3 [] [jZ s r.kids, r] else if r.kind <= 1 then .mk 0 [] [] else .mk 4 [] (if r.kind = 3 then fQ s r.kids else lZ s r.kids) := by
 cases r with
 |mk k ss ks => rw [cZ]; rfl
theorem nK (s : Int) : ∀ ks : List Rx, lZ s ks = ks.map (cZ s)
 |[] => by rw [lZ]; rfl
 |r :: rs => by rw [lZ, nK s rs]; rfl
theorem rH {ks : List Rx} (h : ∀ x ∈ ks, ay x = true) : ay (.mk 3 [] ks) = true := by
 rw [gH]; simpa [Rx.kind, Rx.syms, Rx.kids] using h
theorem uo {ks : List Rx} (h : ∀ x ∈ ks, ay x = true) : ay (.mk 4 [] ks) = true := by
 rw [gH]; simpa [Rx.kind, Rx.syms, Rx.kids] using h
theorem uh {s : Int} : ∀ {ks : List Rx}, (∀ x ∈ ks, ay x = true) -> (∀ x ∈ ks, ay (cZ s x) = true) -> ∀ x ∈ fQ s ks, ay x = true
 |[], _, _ => by rw [fQ]; intro x hx; cases hx
 |r :: rs, h, hd => by
  rw [fQ];intro x hx
  rcases List.mem_cons.1 hx with rfl | hx
  ·exact rH fun y hy => by
    rcases List.mem_cons.1 hy with rfl | hy
    ·exact hd r (by simp)
    ·exact h y (by simp [hy])
  ·split at hx
   ·exact uh (fun x hx => h x (by simp [hx])) (fun x hx => hd x (by simp [hx])) x hx
   ·cases hx
theorem qL {r : Rx} (s : Int) (h : ay r = true) : ay (cZ s r) = true := by
 induction r using Rx.ind with
 |h r ih =>
  have hd : ∀ x ∈ r.kids, ay (cZ s x) = true := fun x hx => ih x hx (eF h x hx)
  have hk := eF h;rw [jY]
  rcases eT h with rfl | rfl | ⟨ss, rfl, hs⟩ | ⟨ks, rfl, _⟩ | ⟨ks, rfl, _⟩ | ⟨x, rfl, hx⟩
  ·rfl
  ·rfl
  ·rw [if_pos (show (Rx.mk 2 ss []).kind = 2 from rfl)]; split <;> rfl
  ·exact uo (uh hk hd)
  ·refine uo ?_;rw [if_neg (by simp [Rx.kind]), nK];intro y hy;obtain ⟨x, hx, rfl⟩ := List.mem_map.1 hy;exact hd x hx
  ·refine rH fun y hy => ?_
   rcases List.mem_cons.1 hy with rfl | hy
   ·exact hd x (by simp [Rx.kids])
   ·rw [show y = .mk 5 [] [x] by simpa using hy]; exact h
theorem xe {s : Int} : ∀ {ks : List Rx}, (∀ x ∈ ks, ∀ w, bf (cZ s x) w ↔ bf x (s :: w)) -> ∀ w, il (fQ s ks) w ↔ cK ks (s :: w)
 |[], _, w => by rw [fQ, il, jA]; simp
 |r :: rs, h, w => by
  have h1 := h r (by simp);have ih := xe (s := s) (ks := rs) fun x hx => h x (by simp [hx])
  rw [fQ, il, jT rfl, show (Rx.mk 3 [] (cZ s r :: rs)).kids = cZ s r :: rs from rfl, gT, gT];constructor
  ·rintro (⟨u, v, rfl, hu, hv⟩ | hl)
   ·exact ⟨s :: u, v, rfl, (h1 u).1 hu, hv⟩
   ·split at hl
    ·rename_i ha
     exact ⟨[], s :: w, rfl, (lN r).1 ha, (ih w).1 hl⟩
    ·rw [il] at hl; exact hl.elim
  ·rintro ⟨u, v, e, hu, hv⟩
   cases u with
   |nil =>
    right
    rw [if_pos ((lN r).2 hu), ih w];rw [List.nil_append] at e;rw [e]; exact hv
   |cons a u =>
    rw [List.cons_append] at e
    injection e with e1 e2
    subst e1;exact .inl ⟨u, v, e2, (h1 u).2 hu, hv⟩
theorem Cb {r : Rx} (s : Int) (h : ay r = true) : ∀ w, bf (cZ s r) w ↔ bf r (s :: w) := by
 induction r using Rx.ind with
 |h r ih =>
  have hd : ∀ x ∈ r.kids, ∀ w, bf (cZ s x) w ↔ bf x (s :: w) := fun x hx => ih x hx (eF h x hx)
  intro w;rw [jY]
  rcases eT h with rfl | rfl | ⟨ss, rfl, hs⟩ | ⟨ks, rfl, _⟩ | ⟨ks, rfl, _⟩ | ⟨x, rfl, hx⟩
  ·exact ⟨fun h => absurd h (iY rfl _), fun h => absurd h (iY rfl _)⟩
  ·rw [gU (r := .mk 1 [] []) rfl];exact ⟨fun h => absurd h (iY rfl _), fun h => by simp at h⟩
  ·rw [if_pos (show (Rx.mk 2 ss []).kind = 2 from rfl), jP (r := .mk 2 ss []) rfl]
   by_cases hc : s ∈ ss
   ·rw [if_pos (by simpa [Rx.syms] using hc), gU rfl];constructor
    ·rintro rfl; exact ⟨s, hc, rfl⟩
    ·rintro ⟨x, _, e⟩
     injection e
   ·rw [if_neg (by simpa [Rx.syms] using hc)];refine ⟨fun h => absurd h (iY rfl _), fun ⟨x, hx, e⟩ => ?_⟩
    injection e with e1 _
    subst e1;exact absurd hx hc
  ·rw [if_neg (show ¬ (Rx.mk 3 [] ks).kind = 2 by simp [Rx.kind]), if_neg (show ¬ (Rx.mk 3 [] ks).kind = 5 by simp [Rx.kind]), if_neg (show ¬ (Rx.mk 3 [] ks).kind <= 1 by simp [Rx.kind]), jC rfl, jT (r := .mk 3 [] ks) rfl];exact xe hd w
  ·rw [if_neg (show ¬ (Rx.mk 4 [] ks).kind = 2 by simp [Rx.kind]), if_neg (show ¬ (Rx.mk 4 [] ks).kind = 5 by simp [Rx.kind]), if_neg (show ¬ (Rx.mk 4 [] ks).kind <= 1 by simp [Rx.kind]), jC rfl, jC (r := .mk 4 [] ks) rfl, if_neg (show ¬ (Rx.mk 4 [] ks).kind = 3 by simp [Rx.kind]), nK, gZ, gZ];constructor
   ·rintro ⟨y, hy, hl⟩;obtain ⟨x, hx, rfl⟩ := List.mem_map.1 hy;exact ⟨x, hx, (hd x hx w).1 hl⟩
   ·rintro ⟨x, hx, hl⟩;exact ⟨_, List.mem_map.2 ⟨x, hx, rfl⟩, (hd x hx w).2 hl⟩
  ·rw [if_neg (show ¬ (Rx.mk 5 [] [x]).kind = 2 by simp [Rx.kind]), if_pos (show (Rx.mk 5 [] [x]).kind = 5 from rfl), jT rfl, iC, bK.step, show (Rx.mk 3 [] [jZ s (Rx.mk 5 [] [x]).kids, Rx.mk 5 [] [x]]).kids = [cZ s x, Rx.mk 5 [] [x]] by rw [Rx.kids, Rx.kids, jZ], gT];have h1 := hd x (by simp [Rx.kids]);constructor
   ·rintro ⟨u, v, rfl, hu, hv⟩;exact ⟨u, v, rfl, (h1 u).1 hu, (iC v).1 (mg.1 hv)⟩
   ·rintro ⟨u, v, rfl, hu, hv⟩;exact ⟨u, v, rfl, (h1 u).2 hu, mg.2 ((iC v).2 hv)⟩
end Rgx
end
namespace Rgx
theorem rY {f : Rx -> Rx} : ∀ {ks : List Rx}, (∀ x ∈ ks, f x = x) -> ks.map f = ks
 |[], _ => rfl
 |x :: t, h => by rw [List.map_cons, h x (by simp), rY fun y hy => h y (by simp [hy])]
theorem oC {x : Rx} (h : NF x) (h4 : x.kind = 4) : altP x.kids = x := by
 obtain ⟨e, hl, hk⟩ := h.k4 h4;unfold altP;rw [iV fun y hy => (hk.kin y hy).2, nO h.kids hk]
 match hq : x.kids, hl with
 |a :: b :: t, _ => rw [e, hq]; rfl
theorem wF {x : Rx} (h : NF x) (h3 : x.kind = 3) : seqP x.kids = x := by
 obtain ⟨e, hl, hk⟩ := h.k3 h3;rw [iH, tC hk, if_neg]
 ·match hq : x.kids, hl with
  |a :: b :: t, _ => rw [e, hq]; rfl
 ·rw [Bool.not_eq_true, List.any_eq_false];intro y hy
  simpa using (hk y hy).1
theorem qo {y : Rx} (h : NF y) (hk : y.kind ≠ 0 /\ y.kind ≠ 1 /\ y.kind ≠ 5) (h1 : y.kind = 4 -> ∀ z ∈ y.kids, z.kind ≠ 1) : starP y = .mk 5 [] [y] := by
 unfold starP;rw [if_neg (by omega), if_neg hk.2.2]
 by_cases h4 : y.kind = 4
 ·rw [if_pos h4, List.filter_eq_self.2 fun z hz => by simpa using h1 h4 z hz, oC h h4]
 ·rw [if_neg h4]
theorem rC {x : Rx} (h : NF x) : normR false x = x := by
 induction x using Rx.ind with
 |h x ih =>
  have hm : x.kids.map (normR false) = x.kids := rY fun y hy => ih y hy (h.kids y hy)
  rw [bX, hm]
  by_cases h3 : x.kind = 3
  ·rw [if_pos h3]; exact wF h h3
  ·rw [if_neg h3]
   by_cases h4 : x.kind = 4
   ·rw [if_pos h4]; exact oC h h4
   ·rw [if_neg h4]
    by_cases h5 : x.kind = 5
    ·rw [if_pos h5];obtain ⟨y, rfl, h6, h7, h8⟩ := h.k5 h5;exact qo h6 h7 h8
    ·rw [if_neg h5]
def dR (L M : List Rx) : Prop := ∀ A B, seqP (A ++ L ++ B) = seqP (A ++ M ++ B)
def bA (L M : List Rx) : Prop := ∀ A B, altP (A ++ L ++ B) = altP (A ++ M ++ B)
theorem dR.refl (L : List Rx) : dR L L := fun _ _ => rfl
theorem bA.refl (L : List Rx) : bA L L := fun _ _ => rfl
theorem dR.tr {L M K : List Rx} (h1 : dR L M) (h2 : dR M K) : dR L K := fun A B => (h1 A B).trans (h2 A B)
theorem bA.tr {L M K : List Rx} (h1 : bA L M) (h2 : bA M K) : bA L K := fun A B => (h1 A B).trans (h2 A B)
theorem dR.symm {L M : List Rx} (h1 : dR L M) : dR M L := fun A B => (h1 A B).symm
theorem bA.symm {L M : List Rx} (h1 : bA L M) : bA M L := fun A B => (h1 A B).symm
theorem dR.app {L M L2 M2 : List Rx} (h1 : dR L M) (h2 : dR L2 M2) : dR (L ++ L2) (M ++ M2) := fun A B => by
 have e1 := h1 A (L2 ++ B);have e2 := h2 (A ++ M) B;simp only [List.append_assoc] at e1 e2 ⊢;rw [e1, e2]
theorem bA.app {L M L2 M2 : List Rx} (h1 : bA L M) (h2 : bA L2 M2) : bA (L ++ L2) (M ++ M2) := fun A B => by
 have e1 := h1 A (L2 ++ B);have e2 := h2 (A ++ M) B;simp only [List.append_assoc] at e1 e2 ⊢;rw [e1, e2]
theorem dR.in_ {M : List Rx} (h : ∀ x ∈ M, NF x) : dR [seqP M] M := fun A B => by
 have := zI (A := A) (B := B) h
 simpa using this
theorem bA.in_ {M : List Rx} (h : ∀ x ∈ M, NF x) : bA [altP M] M := fun A B => by
 have := Dz (A := A) (B := B) h
 simpa using this
theorem dR.of {L M : List Rx} (h : dR L M) : seqP L = seqP M := by simpa using h [] []
theorem bA.of {L M : List Rx} (h : bA L M) : altP L = altP M := by simpa using h [] []
theorem bA.of_AEq {L M : List Rx} (h : ∀ A B : List Rx, gM (A ++ flatR L ++ B) (A ++ flatR M ++ B)) : bA L M := fun A B => by
 unfold altP;rw [kK, kK, kK, kK, (h _ _).alt]
theorem bA.none : bA [.mk 0 [] []] [] := bA.of_AEq fun A B => by
 rw [show flatR [Rx.mk 0 [] []] = [.mk 0 [] []] from rfl, show flatR [] = [] from rfl];exact gM.drop0
theorem bA.filter {l : List Rx} (h : ∀ x ∈ l, NF x) : bA (l.filter fun x => decide (x.kind ≠ 0)) l := by
 induction l with
 |nil => exact bA.refl _
 |cons x t ih =>
  have ih2 := ih fun y hy => h y (by simp [hy])
  by_cases h0 : x.kind = 0
  ·rw [List.filter_cons_of_neg (by simp [h0]), (h x (by simp)).k0 h0];exact ih2.tr (bA.app bA.none.symm (bA.refl _))
  ·rw [List.filter_cons_of_pos (by simp [h0])];exact bA.app (bA.refl [x]) ih2
theorem gz : ∀ A B : List Rx, ah (A ++ B) = ah A + ah B
 |[], B => by rw [List.nil_append, show ah [] = 0 from by rw [ah]]; omega
 |x :: A, B => by rw [List.cons_append, ah, ah, gz A B]; omega
theorem l5 {x : Rx} : ∀ {l : List Rx}, x ∈ l -> av x <= ah l
 |y :: l, h => by
  rw [ah];have h3 := dN l;have h4 := cO y
  rcases List.mem_cons.1 h with rfl | h
  ·omega
  ·have := l5 h; omega
theorem yO (p : Rx -> Bool) : ∀ l : List Rx, ah (l.filter p) <= ah l
 |[] => by simp
 |x :: l => by
  have h1 := yO p l;have h2 := cO x;rw [List.filter_cons, ah]
  split
  ·rw [ah]; omega
  ·omega
theorem pY (x : Rx) : ∀ l : List Rx, ah (fe l x) <= ah l + av x
 |[] => by rw [fe]; simp only [ah]; omega
 |y :: l => by
  have h := pY x l;have h2 := cO x;rw [fe]
  split
  ·rw [ah, ah]; omega
  ·split
   ·omega
   ·rw [ah, ah]; omega
theorem ve : ∀ (l out : List Rx), ah (fU out l) <= ah out + ah l
 |[], out => by show ah out <= _; rw [show ah [] = 0 from by rw [ah]]; omega
 |x :: l, out => by
  have h1 := ve l (fe out x);have h2 := pY x out;rw [ah];show ah (fU (fe out x) l) <= _;omega
theorem jV (k : Int) (s : List Int) : av (.mk k s []) = 1 := by rw [av, ah]; rfl
theorem kH (k : Int) (s : List Int) (ks : List Rx) : av (.mk k s ks) = 1 + ah ks := by rw [av]
theorem xY (p q r : Rx -> Bool) : ∀ (l : List Rx), (∀ x ∈ l, (p x = true -> q x = false /\ r x = false) /\ (q x = true -> r x = false)) -> ah (l.filter p) + ah (l.filter q) + ah (l.filter r) <= ah l
 |[], _ => by simp [ah]
 |x :: l, h => by
  have h1 := xY p q r l fun y hy => h y (by simp [hy])
  have h2 := cO x;have h3 := h x (by simp);rw [List.filter_cons, List.filter_cons, List.filter_cons, ah]
  cases hp : p x <;> cases hq : q x <;> cases hr : r x <;> simp [hp, hq, hr] at h3 ⊢ <;> (try simp only [ah]) <;> omega
theorem D6 {f : List Rx} (h : ∀ x ∈ f, NF x) : ah (altOut f) <= ah f := by
 have h1 := xY (fun x => decide (2 < x.kind)) (fun x => decide (x.kind = 2)) (fun x => decide (x.kind = 1)) f fun x _ => by
  simp only [decide_eq_true_eq, decide_eq_false_iff_not];omega
 have h2 := ve (f.filter fun x => decide (2 < x.kind)) [];rw [show ah [] = 0 from by rw [ah]] at h2;have pos1 : ∀ {p : Rx -> Bool} {x : Rx}, x ∈ f -> p x = true -> 1 <= ah (f.filter p) := fun {p x} hx hp => by
  have := l5 (List.mem_filter.2 ⟨hx, hp⟩);have := cO x;omega
 have h3 : ah (if bO f = [] then fU [] (f.filter fun x => decide (2 < x.kind)) else fe (fU [] (f.filter fun x => decide (2 < x.kind))) (.mk 2 (bO f) [])) <= ah (f.filter fun x => decide (2 < x.kind)) + ah (f.filter fun x => decide (x.kind = 2)) := by
  have hp := dN (f.filter fun x => decide (x.kind = 2))
  split
  ·omega
  ·rename_i hs
   have h4 := pY (.mk 2 (bO f) []) (fU [] (f.filter fun x => decide (2 < x.kind)));rw [jV] at h4;obtain ⟨s, hs1⟩ := List.exists_mem_of_ne_nil _ hs;obtain ⟨_, y, hy, hys⟩ := iE.1 hs1;have hy2 : y.kind = 2 := by
    by_cases e : y.kind = 2
    ·exact e
    ·rw [(h y hy).syms e] at hys; cases hys
   have := pos1 (p := fun x => decide (x.kind = 2)) hy (by simpa using hy2);omega
 have hp := dN (f.filter fun x => decide (x.kind = 1));show ah (if gQ f then fe _ (.mk 1 [] []) else _) <= _
 split
 ·rename_i hc
  obtain ⟨⟨y, hy, hy1⟩, _⟩ := iM.1 hc;have h5 := pos1 (p := fun x => decide (x.kind = 1)) hy (by simpa using hy1);have h4 := pY (.mk 1 [] []) (if bO f = [] then fU [] (f.filter fun x => decide (2 < x.kind)) else fe (fU [] (f.filter fun x => decide (2 < x.kind))) (.mk 2 (bO f) []));rw [jV] at h4;omega
 ·omega
theorem zX (x : Rx) : ah (flt x) <= av x := by
 unfold flt
 split
 ·rw [dA]; omega
 ·rw [ah, ah]; omega
theorem og : ∀ l : List Rx, ah (flatR l) <= ah l
 |[] => by show ah [] <= ah []; omega
 |x :: l => by
  rw [qV, gz, ah];have := zX x;have := og l;omega
theorem Gb (F : List Rx) : av (altEnd F) <= 1 + ah F := by
 match F with
 |[] => show av (.mk 0 [] []) <= _; rw [jV, ah]; omega
 |[x] => show av x <= _; rw [ah, ah]; omega
 |x :: y :: t => show av (.mk 4 [] _) <= _; rw [kH]; omega
theorem u7 {l : List Rx} (h : ∀ x ∈ l, NF x) : av (altP l) <= 1 + ah l := by
 have h1 := Gb (altOut (flatR l));have h2 := D6 fun x hx => (NF.flatR h x hx).1
 have h3 := og l;unfold altP;omega
theorem zB (x : Rx) : ah (spl x) <= av x := by
 have := cO x;unfold spl
 split
 ·rw [dA]; omega
 ·split
  ·rw [ah]; omega
  ·rw [ah, ah]; omega
theorem uU : ∀ l : List Rx, ah (l.flatMap spl) <= ah l
 |[] => by show ah [] <= ah []; omega
 |x :: l => by
  rw [List.flatMap_cons, gz, ah];have := zB x;have := uU l;omega
theorem vP (l : List Rx) : av (seqP l) <= 1 + ah l := by
 have h1 := uU l;have h2 := dN l;rw [iH]
 split
 ·rw [jV]; omega
 ·match hF : l.flatMap spl with
  |[] => show av (.mk 1 [] []) <= _; rw [jV]; omega
  |[x] => rw [hF, ah, ah] at h1; show av x <= _; omega
  |x :: y :: t => rw [hF] at h1; show av (.mk 3 [] _) <= _; rw [kH]; omega
theorem EF {x : Rx} (h : NF x) : av (starP x) <= 1 + av x := by
 have := cO x;unfold starP
 split
 ·rw [jV]; omega
 ·split
  ·omega
  ·rw [kH, ah, ah]
   split
   ·have h1 := u7 (l := x.kids.filter fun y => decide (y.kind ≠ 1)) fun y hy => h.kids y (List.mem_filter.1 hy).1
    have h2 := yO (fun y => decide (y.kind ≠ 1)) x.kids;have h3 := dA x;omega
   ·omega
theorem yJ {f : Rx -> Rx} : ∀ {ks : List Rx}, (∀ x ∈ ks, av (f x) <= av x) -> ah (ks.map f) <= ah ks
 |[], _ => by show ah [] <= ah []; omega
 |x :: t, h => by
  rw [List.map_cons, ah, ah];have := h x (by simp);have := yJ (f := f) (ks := t) fun y hy => h y (by simp [hy])
  omega
theorem yK : ∀ l : List Rx, ah l.reverse = ah l
 |[] => rfl
 |x :: l => by rw [List.reverse_cons, gz, yK l, ah, ah, ah]; omega
theorem kM {r : Rx} (t : Bool) (h : ay r = true) : av (normR t r) <= av r := by
 induction r using Rx.ind with
 |h r ih =>
  have hm : ah (r.kids.map (normR t)) <= ah r.kids := yJ fun x hx => ih x hx (eF h x hx)
  have hN : ∀ y ∈ r.kids.map (normR t), NF y := fun y hy => by
   obtain ⟨x, hx, rfl⟩ := List.mem_map.1 hy;exact NF.normR t (eF h x hx)
  have hc := dA r;rw [bX]
  by_cases h3 : r.kind = 3
  ·rw [if_pos h3];have h1 := vP (lX t (r.kids.map (normR t)));have h2 : ah (lX t (r.kids.map (normR t))) = ah (r.kids.map (normR t)) := by
    unfold lX; split
    ·exact yK _
    ·rfl
   omega
  ·rw [if_neg h3]
   by_cases h4 : r.kind = 4
   ·rw [if_pos h4];have h1 := u7 hN;omega
   ·rw [if_neg h4]
    by_cases h5 : r.kind = 5
    ·rw [if_pos h5]
     rcases eT h with rfl | rfl | ⟨s, rfl, hs⟩ | ⟨ks, rfl, _⟩ | ⟨ks, rfl, _⟩ | ⟨x, rfl, hx⟩
     ·cases h5
     ·cases h5
     ·cases h5
     ·cases h5
     ·cases h5
     ·have h1 := EF (NF.normR t hx);have h2 := ih x (by simp [Rx.kids]) hx;show av (starP (normR t x)) <= _;rw [kH, ah, ah];omega
    ·rw [if_neg h5]; omega
def bn : List Rx -> List Rx
 |[] => []
 |[x] => [x]
 |x :: y :: t => if aW x y = 0 then bn (y :: t) else x :: bn (y :: t)
theorem pG : ∀ {l : List Rx} {z : Rx}, z ∈ bn l ↔ z ∈ l
 |[], z => by rw [bn]
 |[x], z => by rw [bn]
 |x :: y :: t, z => by
  rw [bn]
  split
  ·rename_i e
   rw [pG (l := y :: t), iU.1 e];simp
  ·rw [List.mem_cons, pG (l := y :: t)];simp
theorem qG : ∀ {l : List Rx}, l.Pairwise (fun a b => ¬ eD b a) -> gN (bn l)
 |[], _ => by rw [bn]; exact List.Pairwise.nil
 |[x], _ => by rw [bn]; exact List.pairwise_singleton _ _
 |x :: y :: t, h => by
  obtain ⟨h1, h2⟩ := List.pairwise_cons.1 h;obtain ⟨h3, h4⟩ := List.pairwise_cons.1 h2;rw [bn]
  split
  ·exact qG (l := y :: t) h2
  ·rename_i e
   have hxy : eD x y := qx (h1 y (by simp)) fun e2 => e (iU.2 e2.symm)
   refine List.pairwise_cons.2 ⟨fun z hz => ?_, qG (l := y :: t) h2⟩
   rcases List.mem_cons.1 (pG.1 hz) with rfl | hz
   ·exact hxy
   ·by_cases e3 : z = y
    ·subst e3; exact hxy
    ·exact hxy.tr (qx (h3 z hz) (fun e4 => e3 e4))
theorem qK (x z : Rx) : bn [x, z] = if aW x z = 0 then [z] else [x, z] := by simp [bn]
theorem xx (x z : Rx) : ∀ l : List Rx, bn (l ++ [x, z]) = if aW x z = 0 then bn (l ++ [x]) else bn (l ++ [x]) ++ [z]
 |[] => by
  show bn [x, z] = if aW x z = 0 then bn [x] else bn [x] ++ [z]
  rw [qK]
  by_cases e : aW x z = 0
  ·rw [if_pos e, if_pos e, iU.1 e]; rfl
  ·rw [if_neg e, if_neg e]; rfl
 |[a] => by
  show bn [a, x, z] = if aW x z = 0 then bn [a, x] else bn [a, x] ++ [z]
  rw [show bn [a, x, z] = if aW a x = 0 then bn [x, z] else a :: bn [x, z] by rw [bn], qK, qK]
  by_cases e : aW x z = 0
  ·have := iU.1 e;subst this;rw [if_pos e, if_pos e]
  ·rw [if_neg e, if_neg e]
   split <;> rfl
 |a :: b :: t => by
  have ih := xx x z (b :: t);show bn (a :: b :: (t ++ [x, z])) = if aW x z = 0 then bn (a :: b :: (t ++ [x])) else bn (a :: b :: (t ++ [x])) ++ [z]
  rw [bn, bn];have ih2 : bn (b :: (t ++ [x, z])) = if aW x z = 0 then bn (b :: (t ++ [x])) else bn (b :: (t ++ [x])) ++ [z] := ih
  rw [ih2]
  split <;> split <;> rfl
def jX (f : List Rx) : List Rx := f.filter (fun x => decide (x.kind ≠ 0 /\ x.kind ≠ 2)) ++ if bO f = [] then [] else [.mk 2 (bO f) []]
def lF (s : List Rx) : List Rx := match s with
 |[] => []
 |x :: t => if x.kind = 1 /\ t.any aL = true then t else x :: t
theorem wh (x : Rx) (t : List Rx) : lF (x :: t) = if x.kind = 1 /\ t.any aL = true then t else x :: t := rfl
theorem uY {z : Rx} (h : 1 < z.kind) : eD (.mk 1 [] []) z := by
 unfold eD;rw [qH, if_pos]
 ·show aQ 1 z.kind < 0; exact kE.2 h
 ·show aQ 1 z.kind ≠ 0;have := (kE (a := 1) (b := z.kind)).2 h;omega
theorem E5 {f s : List Rx} (h : ∀ x ∈ f, NF x /\ x.kind ≠ 4) (hs : gN s) (hm : ∀ z, z ∈ s ↔ z ∈ jX f) : lF s = altOut f := by
 have hk : ∀ z, z ∈ s ↔ (z ∈ f /\ z.kind ≠ 0 /\ z.kind ≠ 2) \/ (bO f ≠ [] /\ z = .mk 2 (bO f) []) := fun z => by
  rw [hm];unfold jX;rw [List.mem_append, List.mem_filter]
  by_cases e : bO f = []
  ·simp [e]
  ·simp [e]
 have hr : ∀ z ∈ s, 1 <= z.kind := fun z hz => by
  rcases (hk z).1 hz with ⟨h1, h2, _⟩ | ⟨_, rfl⟩
  ·have := (h z h1).1.rng; omega
  ·simp [Rx.kind]
 have hE : ∀ z ∈ s, z.kind = 1 -> z = .mk 1 [] [] := fun z hz e => by
  rcases (hk z).1 hz with ⟨h1, h2, _⟩ | ⟨_, rfl⟩
  ·exact (h z h1).1.k1 e
  ·simp [Rx.kind] at e
 have hacc : ∀ z ∈ s, z.kind ≠ 1 -> aL z = true -> z ∈ f /\ 2 < z.kind := fun z hz e ha => by
  have h0 := hr z hz
  rcases (hk z).1 hz with ⟨h1, h2, h3⟩ | ⟨_, rfl⟩
  ·exact ⟨h1, by omega⟩
  ·rw [qz] at ha; simp [Rx.kind] at ha
 have hbig : ∀ z, 2 < z.kind -> (z ∈ f ↔ z ∈ s) := fun z hz => by
  rw [hk];constructor
  ·exact fun h => .inl ⟨h, by omega, by omega⟩
  ·rintro (⟨h1, _⟩ | ⟨_, rfl⟩)
   ·exact h1
   ·simp [Rx.kind] at hz
 have hc : gQ f = true ↔ (.mk 1 [] [] : Rx) ∈ s /\ ∀ z ∈ s, z.kind ≠ 1 -> aL z = false := by
  rw [iM];constructor
  ·rintro ⟨⟨x, hx, hx1⟩, h2⟩;refine ⟨?_, fun z hz e => ?_⟩
   ·rw [<- (h x hx).1.k1 hx1]; exact (hk x).2 (.inl ⟨hx, by omega, by omega⟩)
   ·by_cases ha : aL z = true
    ·have h3 := hacc z hz e ha;rw [h2 z h3.1 h3.2] at ha; cases ha
    ·simpa using ha
  ·rintro ⟨h1, h2⟩;refine ⟨⟨.mk 1 [] [], ?_, rfl⟩, fun x hx hk2 => h2 x ((hbig x hk2).1 hx) (by omega)⟩
   rcases (hk _).1 h1 with ⟨h3, _⟩ | ⟨_, e⟩
   ·exact h3
   ·cases e
 have key : ∀ res : List Rx, gN res -> (∀ z, z ∈ res ↔ z ∈ s /\ (z.kind = 1 -> gQ f = true)) -> res = altOut f := fun res h1 h2 => by
  refine ql h1 (nI f) fun z => ?_
  rw [h2, fH, hk];constructor
  ·rintro ⟨⟨h3, h4, h5⟩ | h3, h6⟩
   ·have h7 := (h z h3).1.rng
    by_cases e : z.kind = 1
    ·exact .inr (.inr ⟨h6 e, (h z h3).1.k1 e⟩)
    ·exact .inl ⟨h3, by omega⟩
   ·exact .inr (.inl h3)
  ·rintro (⟨h3, h4⟩ | h3 | ⟨h3, rfl⟩)
   ·exact ⟨.inl ⟨h3, by omega, by omega⟩, fun e => by omega⟩
   ·exact ⟨.inr h3, fun e => by rw [h3.2] at e; simp [Rx.kind] at e⟩
   ·have h4 := (hk _).1 (hc.1 h3).1;exact ⟨h4, fun _ => h3⟩
 match s, hs, hk, hr, hE, hacc, hbig, hc, key with
 |[], hs, hk, hr, hE, hacc, hbig, hc, key => exact key [] hs fun z => by simp
 |x :: t, hs, hk, hr, hE, hacc, hbig, hc, key =>
  obtain ⟨h1, h2⟩ := List.pairwise_cons.1 hs;have ht : ∀ z ∈ t, z.kind ≠ 1 := fun z hz e => by
   have hz1 := hE z (by simp [hz]) e;have hx1 := hr x (by simp)
   by_cases e2 : x.kind = 1
   ·have := hE x (by simp) e2;have h3 := h1 z hz;rw [hz1, this] at h3;exact h3.irr
   ·have h3 := h1 z hz;rw [hz1] at h3;exact (h3.asym (uY (by omega)))
  rw [wh]
  by_cases hx : x.kind = 1
  ·by_cases ha : t.any aL = true
   ·rw [if_pos ⟨hx, ha⟩];refine key t h2 fun z => ?_
    have hn : gQ f ≠ true := fun e => by
     obtain ⟨y, hy, hya⟩ := List.any_eq_true.1 ha;rw [(hc.1 e).2 y (by simp [hy]) (ht y hy)] at hya; cases hya
    constructor
    ·exact fun hz => ⟨by simp [hz], fun e => absurd e (ht z hz)⟩
    ·rintro ⟨hz, hz2⟩
     rcases List.mem_cons.1 hz with rfl | hz
     ·exact absurd (hz2 hx) hn
     ·exact hz
   ·rw [if_neg fun e => ha e.2];refine key _ hs fun z => ⟨fun hz => ⟨hz, fun e => hc.2 ⟨by rw [<- hE x (by simp) hx]; simp, fun y hy hy1 => ?_⟩⟩, fun hz => hz.1⟩
    rcases List.mem_cons.1 hy with rfl | hy
    ·exact absurd hx hy1
    ·have := List.any_eq_false.1 (by simpa using ha) y hy
     simpa using this
  ·rw [if_neg fun e => hx e.1];refine key _ hs fun z => ⟨fun hz => ⟨hz, fun e => ?_⟩, fun hz => hz.1⟩
   rcases List.mem_cons.1 hz with rfl | hz
   ·exact absurd e hx
   ·exact absurd e (ht z hz)
end Rgx
end Go.Proofs.YtakcjlimbabbfaaGreatDoor
