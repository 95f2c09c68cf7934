/-
  The pure side of streams, and copying a string into an array of the call's own.
-/
import Derived.Test.YtkaaejfochdjcaaDoorHFin
namespace Go.Proofs.YtkaaejfochdjcaaDoor
open Go.RowKit
set_option linter.unusedVariables false
namespace Sha
/-- The bytes behind the last full block. -/
def tail (m : List UInt8) : List UInt8 := m.drop (64 * (m.length / 64))
theorem tail_length (m : List UInt8) : (tail m).length = m.length % 64 := by simp [tail]; omega
def blk (m : List UInt8) : List UInt8 := tail m ++ List.replicate (64 - m.length % 64) 0
theorem blk_length (m : List UInt8) : (blk m).length = 64 := by simp [blk, tail_length]; omega
theorem hvN_zero (V : List U) (m : List UInt8) : hvN 0 V m = V := by rw [hvN]
theorem hvN_succ (k : Nat) (V : List U) (m : List UInt8) : hvN (k + 1) V m = hvN k (comp V (m.take 64)) (m.drop 64) := by rw [hvN]
theorem hvN_snoc (k : Nat) : ∀ (V : List U) (m : List UInt8), hvN (k + 1) V m = comp (hvN k V m) ((m.drop (64 * k)).take 64) := by
  induction k with
  | zero => intro V m; rw [hvN_succ, hvN_zero, hvN_zero]; rfl
  | succ k ih =>
    intro V m
    rw [hvN_succ, ih, hvN_succ, List.drop_drop]
    congr 3
    omega
theorem hvN_append (k : Nat) : ∀ (V : List U) (m x : List UInt8), 64 * k ≤ m.length → hvN k V (m ++ x) = hvN k V m := by
  induction k with
  | zero => intro V m x h; rw [hvN_zero, hvN_zero]
  | succ k ih =>
    intro V m x h
    rw [hvN_snoc, hvN_snoc, ih _ _ _ (by omega), List.drop_append_of_le_length (by omega), List.take_append_of_le_length (by simp; omega)]
theorem hvN_length (k : Nat) : ∀ (V : List U) (m : List UInt8), V.length = 8 → (hvN k V m).length = 8 := by
  induction k with
  | zero => intro V m h; rw [hvN_zero]; exact h
  | succ k ih => intro V m h; rw [hvN_snoc]; exact comp_length _ _ (ih _ _ h)
theorem hv_length (m : List UInt8) : (hv m).length = 8 := by rw [hv]; exact hvN_length _ _ _ rfl
theorem hv_same (m x : List UInt8) (h : m.length % 64 + x.length < 64) : hv (m ++ x) = hv m := by
  have e : (m ++ x).length / 64 = m.length / 64 := by simp; omega
  rw [hv, hv, e, hvN_append _ _ _ _ (by omega)]
theorem hv_full (m x : List UInt8) (h : m.length % 64 + x.length = 64) : hv (m ++ x) = comp (hv m) (tail m ++ x) := by
  have e : (m ++ x).length / 64 = m.length / 64 + 1 := by simp; omega
  rw [hv, hv, e, hvN_snoc, hvN_append _ _ _ _ (by omega), List.drop_append_of_le_length (by omega)]
  congr 1
  rw [List.take_of_length_le (by simp; omega)]
  rfl
theorem blk_same (m x : List UInt8) (h : m.length % 64 + x.length < 64) : blk (m ++ x) = tail m ++ x ++ List.replicate (64 - (m.length % 64 + x.length)) 0 := by
  have e : (m ++ x).length / 64 = m.length / 64 := by simp; omega
  have e2 : (m ++ x).length % 64 = m.length % 64 + x.length := by simp; omega
  rw [blk, e2, tail, e, List.drop_append_of_le_length (by omega)]
  rfl
theorem blk_full (m x : List UInt8) (h : m.length % 64 + x.length = 64) : blk (m ++ x) = Z64 := by
  have e2 : (m ++ x).length % 64 = 0 := by simp; omega
  have : tail (m ++ x) = [] := List.eq_nil_of_length_eq_zero (by rw [tail_length, e2])
  rw [blk, e2, this]
  rfl
theorem blk_put (m x : List UInt8) (h : m.length % 64 + x.length ≤ 64) : (blk m).take (m.length % 64) ++ x ++ (blk m).drop (m.length % 64 + x.length) = tail m ++ x ++ List.replicate (64 - (m.length % 64 + x.length)) 0 := by
  have hl := tail_length m
  rw [blk, List.take_append_of_le_length (by omega), List.take_of_length_le (by omega), List.drop_append, List.drop_of_length_le (by omega)]
  simp [hl]
  omega
theorem blk_nil : blk [] = Z64 := rfl
theorem hv_nil : hv [] = IV := by rw [hv]; exact hvN_zero _ _
attribute [irreducible] blk tail
end Sha
open Sha
/-- A stream that has read m. -/
def Str (m : List UInt8) : List Value := strm (hv m) (blk m) m.length
theorem Str_nil : Str [] = strm IV Z64 0 := by rw [Str, hv_nil, blk_nil]; rfl
theorem Str_part (M x : List UInt8) (h : M.length % 64 + x.length < 64) : Str (M ++ x) = strm (hv M) ((blk M).take (M.length % 64) ++ x ++ (blk M).drop (M.length % 64 + x.length)) (M.length + x.length) := by
  rw [Str, hv_same M x h, blk_same M x h, blk_put M x (by omega), List.length_append]
theorem Str_full (M x : List UInt8) (h : M.length % 64 + x.length = 64) : Str (M ++ x) = strm (comp (hv M) ((blk M).take (M.length % 64) ++ x ++ (blk M).drop (M.length % 64 + x.length))) Z64 (M.length + x.length) := by
  rw [Str, hv_full M x h, blk_full M x h, blk_put M x (by omega), List.length_append, h, Nat.sub_self, List.replicate_zero, List.append_nil]
theorem Str_length (m : List UInt8) : (Str m).length = 73 := strm_length (hv_length m) (blk_length m)

theorem strm_putXs {V : List U} {X x : List UInt8} {n off : Nat} (hV : V.length = 8) (hX : X.length = 64) (h : off + x.length ≤ 64) : (strm V X n).take (8 + off) ++ bs x ++ (strm V X n).drop (8 + off + x.length) = strm V (X.take off ++ x ++ X.drop (off + x.length)) n := by
  have h8 : (wvs V).length = 8 := by rw [wvs_length, hV]
  have h64 : (bs X).length = 64 := by rw [bs_length, hX]
  have e1 : (strm V X n).take (8 + off) = wvs V ++ bs (X.take off) := by
    rw [strm, List.append_assoc, ← h8, List.take_length_add_append, List.take_append_of_le_length (by omega), bs_take]
  have e2 : (strm V X n).drop (8 + off + x.length) = bs (X.drop (off + x.length)) ++ [.int .u64 n] := by
    rw [strm, List.append_assoc, Nat.add_assoc, ← h8, List.drop_length_add_append, List.drop_append_of_le_length (by omega), bs_drop]
  rw [e1, e2, strm, bs_append, bs_append]
  simp

def sb (l : List UInt8) : ByteArray := ⟨l.toArray⟩
theorem sb_size (l : List UInt8) : (sb l).size = l.length := by simp [sb, ByteArray.size]
theorem sb_list (l : List UInt8) : (sb l).data.toList = l := by simp [sb]
theorem sb_of (s : ByteArray) : sb s.data.toList = s := rfl
theorem sb_extract (l : List UInt8) (n : Nat) : (sb l).extract n (sb l).size = sb (l.drop n) := by
  apply ByteArray.ext
  apply Array.toList_inj.1
  rw [sb_list, ByteArray.data_extract]
  simp [sb, ByteArray.size]
  exact List.take_of_length_le (by simp)

theorem wpList_copy_str {P : Program} {w : World} {ops : Array Oper} {rest : List Oper} {o : Oper} {a : Act} {Q : Exit → Act → World → Prop} (hgd : o.guard = none) (d s : Operand) (dT sT : TypeId)
    (ho : o.op = .call { callee := .builtin .copy, args := #[d, s], argTypes := #[dT, sT] }) (elem : TypeId) (hu : P.underlying dT = some (.slice elem)) (hs1 : (P.info? elem).map (·.size) = some 1)
    (g j dLen dCap : Nat) (hd : a.eval d = .slice (some ⟨g, j, none⟩) dLen dCap) (q : List UInt8) (hs : a.eval s = .string (sb q)) {C : List Value} {T : TypeId} (hb : Blk w g C T) (n : Nat) (hn : n = Nat.min q.length dLen) (hfit : j + n ≤ C.length)
    (h : ∀ w1, Stored w w1 g (C.take j ++ bs (q.take n) ++ C.drop (j + n)) T → wpList P ops Q rest (a.put o.dst (goInt n)) w1) : wpList P ops Q (o :: rest) a w := by
  refine wpList_plain hgd fun _ hK => ?_
  have hnq : n ≤ q.length := by rw [hn]; exact Nat.min_le_left _ _
  have hl : (bs (q.take n)).length = n := by rw [bs_length, List.length_take]; omega
  have hst := run_storeCells_cells (P := P) g j (bs (q.take n)) 0 w (fun i hi => by have := (hb.there j n hfit i (by omega)).1; simpa using this) (fun i hi => by have := (hb.there j n hfit i (by omega)).2; simpa using this) (bs_one _)
  simp only [Nat.add_zero] at hst
  have hcells : List.take n (List.map (fun b => Value.int IntKind.u8 (b.toNat : Int)) (sb q).data.toList) = bs (q.take n) := by
    rw [sb_list]
    simp [bs]
    rfl
  have hrun : ∀ ty, (Builtin.copy_ #[dT, sT] ty #[.slice (some ⟨g, j, none⟩) dLen dCap, .string (sb q)]).run P w = .ok (goInt n) (w.setCells g j (bs (q.take n))) := by
    intro ty
    cases hq : P.info? elem with
    | none => simp [hq] at hs1
    | some i =>
      simp [Builtin.copy_, run_underlying hu, Builtin.lenOf, Builtin.firstCells, sizeOf, typeInfo, hq, sb_size, ← hn, hcells, hst]
  unfold Oper.wp execOp
  simp only [ho, resolve, invoke, builtin, Sem.run_bind, Sem.run_pure, Result.andThen_ok, List.map_toArray, List.map_cons, List.map_nil, hd, hs, hrun]
  have hS := Stored.of_setCells hb j (bs (q.take n)) (by rw [hl]; exact hfit)
  rw [hl] at hS
  exact hK _ _ (h _ hS)
end Go.Proofs.YtkaaejfochdjcaaDoor
