/-
  The walk of hash.Sum.
-/
import Derived.Test.YtkaaejfochdjcaaDoorHSum
import Derived.Test.YtkaaejfochdjcaaDoorWConv
import Derived.Test.YtkaaejfochdjcaaDoorHWire
import Derived.Deep.RegionWith
import Derived.Deep.RegionHeld3
import Derived.Deep.RegionLaw
namespace Go.Proofs.YtkaaejfochdjcaaDoor
open Go.RowKit
open Sha
set_option linter.unusedVariables false

theorem KH.step {w w0 w' : World} (h : KH w) (hb : Below w.heap.size w w0) (hb' : Below w0.heap.size w0 w') : KH w' := (h.below hb h.2).below hb' (h.below hb h.2).2
theorem begin_str (w : World) : Calls Tryd.prog 60 #[] w fun e w' => e = .returned (.agg (Str []).toArray) ∧ Below w.heap.size w w' := by
  rw [Str_nil]
  exact begin_any w
theorem conv_sb {w : World} {A : Option Addr} {l : List UInt8} {n : Nat} (c : Nat) (hn : n = l.length) (h : Rd w A (bs l)) : (convert 53 9 (.slice A n c)).run Tryd.prog w = .ok (.string (sb l)) w := by
  subst hn
  exact conv_rd Tryd.underlying53 Tryd.underlying5 Tryd.underlying9 h c

abbrev Z32 : Array Value := #[.int .u8 0, .int .u8 0, .int .u8 0, .int .u8 0, .int .u8 0, .int .u8 0, .int .u8 0, .int .u8 0, .int .u8 0, .int .u8 0, .int .u8 0, .int .u8 0, .int .u8 0, .int .u8 0, .int .u8 0, .int .u8 0, .int .u8 0, .int .u8 0, .int .u8 0, .int .u8 0, .int .u8 0, .int .u8 0, .int .u8 0, .int .u8 0, .int .u8 0, .int .u8 0, .int .u8 0, .int .u8 0, .int .u8 0, .int .u8 0, .int .u8 0, .int .u8 0]
end Go.Proofs.YtkaaejfochdjcaaDoor
