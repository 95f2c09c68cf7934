/-
  NARROWER THAN 'FOR EVERY INPUT', by the rows' own cells (each row's printed sentence says how): RegexForms: loops, laid · RegexDerives: loops, laid · RegexMatches: loops, laid · RegexReads: laid · RegexWrites: loops, laid · RegexLanguage: laid · RegexOperations: laid · RegexNormal: laid · RegexPatterns: laid.
  DERIVED. THE GIVEN ROWS OF THIS SEAT. 9 by the template 'for every input the law returns true; each argument reads behind the call as it read before'; 0 by the template 'total and deterministic' (their statements: YtakcjlimbabbfaaGreatDoorTotals.lean).
  GIVEN WITH THE SEED: the statements are not yours to turn. If you find one false, say at which input.
  Laid BY PROGRAM, IN A SANDBOX (cutbox-rows.mjs): the forced cells as the released guide's own fill.sh prints them over the translation 9b86ce7450a5d40c… (all of the seat's roots in one cut). By AI agents, Wed Nov 11 2026. No macro, syntax, notation, axiom, sorry.
-/
import Derived.Test.YtakcjlimbabbfaaGreatDoorChecked
import GoSem.Claim
import GoSem.ClaimJoined
import GoSem.ClaimMapViews
import Derived.JoinedTies
import Derived.KernelRfl
namespace Go.Proofs.YtakcjlimbabbfaaGreatDoor
/- THE CELL 'sum', in the pinned program and in every row, IS THE sha256 OF THE DUMP (.gsa) THAT YtakcjlimbabbfaaGreatDoorProg.lean LOADS. Nothing in Lean hashes anything: it is a label: what it is worth is what the hold of that sum in a sandbox is worth. -/
noncomputable def Tryz.pinned : Pinned := { name := "ytakcjlimbabbfaagreatdoor", sum := "9b86ce7450a5d40c3f676aa201535e5854104d7874eb6a830105866b73788fc5", checked := Tryz.checked }
namespace Rows
def none {H : Type} : Left H := { results := [], args := [] }

/- WHAT THE LISTED PACKAGE-LEVEL VARIABLES READ AS WHEN THE CALL BEGINS. Each datum BY PROGRAM (the guide's laid-datum.mjs) off the statement by which the dump's own 'gosem.cut.vars' lays the variable. In a bare row this is a premise. The card (YtakcjlimbabbfaaGreatDoorCards.lean) ties it to the program's text. -/
def laid_math_bits_deBruijn64tab {H : Type} : DataW H := .agg [.lit (.int .u8 0), .lit (.int .u8 1), .lit (.int .u8 56), .lit (.int .u8 2), .lit (.int .u8 57), .lit (.int .u8 49), .lit (.int .u8 28), .lit (.int .u8 3), .lit (.int .u8 61), .lit (.int .u8 58), .lit (.int .u8 42), .lit (.int .u8 50), .lit (.int .u8 38), .lit (.int .u8 29), .lit (.int .u8 17), .lit (.int .u8 4), .lit (.int .u8 62), .lit (.int .u8 47), .lit (.int .u8 59), .lit (.int .u8 36), .lit (.int .u8 45), .lit (.int .u8 43), .lit (.int .u8 51), .lit (.int .u8 22), .lit (.int .u8 53), .lit (.int .u8 39), .lit (.int .u8 33), .lit (.int .u8 30), .lit (.int .u8 24), .lit (.int .u8 18), .lit (.int .u8 12), .lit (.int .u8 5), .lit (.int .u8 63), .lit (.int .u8 55), .lit (.int .u8 48), .lit (.int .u8 27), .lit (.int .u8 60), .lit (.int .u8 41), .lit (.int .u8 37), .lit (.int .u8 16), .lit (.int .u8 46), .lit (.int .u8 35), .lit (.int .u8 44), .lit (.int .u8 21), .lit (.int .u8 52), .lit (.int .u8 32), .lit (.int .u8 23), .lit (.int .u8 11), .lit (.int .u8 54), .lit (.int .u8 26), .lit (.int .u8 40), .lit (.int .u8 15), .lit (.int .u8 34), .lit (.int .u8 20), .lit (.int .u8 31), .lit (.int .u8 10), .lit (.int .u8 25), .lit (.int .u8 14), .lit (.int .u8 19), .lit (.int .u8 9), .lit (.int .u8 13), .lit (.int .u8 8), .lit (.int .u8 7), .lit (.int .u8 6)]

/-- 'wordbooklaw07.RegexForms': WHATEVER THE INPUT: true; the input reads as it did. -/
def regexFormsSpec : ChangeSpec := { name := "regexForms", fn := fun _ => fun
  | [d1, d2] => { results := [.lit (.bool true)], args := [d1, d2] }
  | _ => none }
def regexFormsRow : OpenClaim := { program := "ytakcjlimbabbfaagreatdoor", sum := "9b86ce7450a5d40c3f676aa201535e5854104d7874eb6a830105866b73788fc5", func := "wordbook/wordbooklaw07.RegexForms", spec := "regexForms", inPlace := ["internal/bytealg.IndexByteString"], unfollowed := true, recurses := true, named := ["math/bits.deBruijn64tab"], loops := true, apart := false, laid := [("math/bits.deBruijn64tab", laid_math_bits_deBruijn64tab)] }
def RegexFormsSaid : Prop := regexFormsRow.holds Tryz.pinned (OpenSpec.ofChange regexFormsSpec)

/-- ITS FALSE NEIGHBOUR: 'it returns false'. Refute it at one input. -/
def regexFormsWrong : ChangeSpec := { name := "regexForms", fn := fun _ => fun
  | [d1, d2] => { results := [.lit (.bool false)], args := [d1, d2] }
  | _ => none }
def RegexFormsWrongFalsely : Prop := regexFormsRow.holds Tryz.pinned (OpenSpec.ofChange regexFormsWrong)

/-- 'wordbooklaw07.RegexDerives': WHATEVER THE INPUT: true; the input reads as it did. -/
def regexDerivesSpec : ChangeSpec := { name := "regexDerives", fn := fun _ => fun
  | [d1, d2, d3, d4] => { results := [.lit (.bool true)], args := [d1, d2, d3, d4] }
  | _ => none }
def regexDerivesRow : OpenClaim := { program := "ytakcjlimbabbfaagreatdoor", sum := "9b86ce7450a5d40c3f676aa201535e5854104d7874eb6a830105866b73788fc5", func := "wordbook/wordbooklaw07.RegexDerives", spec := "regexDerives", inPlace := ["internal/bytealg.IndexByteString"], unfollowed := true, recurses := true, named := ["math/bits.deBruijn64tab"], loops := true, apart := false, laid := [("math/bits.deBruijn64tab", laid_math_bits_deBruijn64tab)] }
def RegexDerivesSaid : Prop := regexDerivesRow.holds Tryz.pinned (OpenSpec.ofChange regexDerivesSpec)

/-- ITS FALSE NEIGHBOUR: 'it returns false'. Refute it at one input. -/
def regexDerivesWrong : ChangeSpec := { name := "regexDerives", fn := fun _ => fun
  | [d1, d2, d3, d4] => { results := [.lit (.bool false)], args := [d1, d2, d3, d4] }
  | _ => none }
def RegexDerivesWrongFalsely : Prop := regexDerivesRow.holds Tryz.pinned (OpenSpec.ofChange regexDerivesWrong)

/-- 'wordbooklaw07.RegexMatches': WHATEVER THE INPUT: true; the input reads as it did. -/
def regexMatchesSpec : ChangeSpec := { name := "regexMatches", fn := fun _ => fun
  | [d1, d2, d3] => { results := [.lit (.bool true)], args := [d1, d2, d3] }
  | _ => none }
def regexMatchesRow : OpenClaim := { program := "ytakcjlimbabbfaagreatdoor", sum := "9b86ce7450a5d40c3f676aa201535e5854104d7874eb6a830105866b73788fc5", func := "wordbook/wordbooklaw07.RegexMatches", spec := "regexMatches", inPlace := ["internal/bytealg.IndexByteString"], unfollowed := true, recurses := true, named := ["math/bits.deBruijn64tab"], loops := true, apart := false, laid := [("math/bits.deBruijn64tab", laid_math_bits_deBruijn64tab)] }
def RegexMatchesSaid : Prop := regexMatchesRow.holds Tryz.pinned (OpenSpec.ofChange regexMatchesSpec)

/-- ITS FALSE NEIGHBOUR: 'it returns false'. Refute it at one input. -/
def regexMatchesWrong : ChangeSpec := { name := "regexMatches", fn := fun _ => fun
  | [d1, d2, d3] => { results := [.lit (.bool false)], args := [d1, d2, d3] }
  | _ => none }
def RegexMatchesWrongFalsely : Prop := regexMatchesRow.holds Tryz.pinned (OpenSpec.ofChange regexMatchesWrong)

/-- 'wordbooklaw07.RegexReads': WHATEVER THE INPUT: true; the input reads as it did. -/
def regexReadsSpec : ChangeSpec := { name := "regexReads", fn := fun _ => fun
  | [d1, d2, d3, d4] => { results := [.lit (.bool true)], args := [d1, d2, d3, d4] }
  | _ => none }
def regexReadsRow : OpenClaim := { program := "ytakcjlimbabbfaagreatdoor", sum := "9b86ce7450a5d40c3f676aa201535e5854104d7874eb6a830105866b73788fc5", func := "wordbook/wordbooklaw07.RegexReads", spec := "regexReads", inPlace := ["internal/bytealg.IndexByteString"], unfollowed := true, recurses := true, named := ["math/bits.deBruijn64tab"], apart := false, laid := [("math/bits.deBruijn64tab", laid_math_bits_deBruijn64tab)] }
def RegexReadsSaid : Prop := regexReadsRow.holds Tryz.pinned (OpenSpec.ofChange regexReadsSpec)

/-- ITS FALSE NEIGHBOUR: 'it returns false'. Refute it at one input. -/
def regexReadsWrong : ChangeSpec := { name := "regexReads", fn := fun _ => fun
  | [d1, d2, d3, d4] => { results := [.lit (.bool false)], args := [d1, d2, d3, d4] }
  | _ => none }
def RegexReadsWrongFalsely : Prop := regexReadsRow.holds Tryz.pinned (OpenSpec.ofChange regexReadsWrong)

/-- 'wordbooklaw07.RegexWrites': WHATEVER THE INPUT: true; the input reads as it did. -/
def regexWritesSpec : ChangeSpec := { name := "regexWrites", fn := fun _ => fun
  | [d1, d2, d3] => { results := [.lit (.bool true)], args := [d1, d2, d3] }
  | _ => none }
def regexWritesRow : OpenClaim := { program := "ytakcjlimbabbfaagreatdoor", sum := "9b86ce7450a5d40c3f676aa201535e5854104d7874eb6a830105866b73788fc5", func := "wordbook/wordbooklaw07.RegexWrites", spec := "regexWrites", inPlace := ["internal/bytealg.IndexByteString"], unfollowed := true, recurses := true, named := ["math/bits.deBruijn64tab"], loops := true, apart := false, laid := [("math/bits.deBruijn64tab", laid_math_bits_deBruijn64tab)] }
def RegexWritesSaid : Prop := regexWritesRow.holds Tryz.pinned (OpenSpec.ofChange regexWritesSpec)

/-- ITS FALSE NEIGHBOUR: 'it returns false'. Refute it at one input. -/
def regexWritesWrong : ChangeSpec := { name := "regexWrites", fn := fun _ => fun
  | [d1, d2, d3] => { results := [.lit (.bool false)], args := [d1, d2, d3] }
  | _ => none }
def RegexWritesWrongFalsely : Prop := regexWritesRow.holds Tryz.pinned (OpenSpec.ofChange regexWritesWrong)

/-- 'wordbooklaw07.RegexLanguage': WHATEVER THE INPUT: true; the input reads as it did. -/
def regexLanguageSpec : ChangeSpec := { name := "regexLanguage", fn := fun _ => fun
  | [d1, d2] => { results := [.lit (.bool true)], args := [d1, d2] }
  | _ => none }
def regexLanguageRow : OpenClaim := { program := "ytakcjlimbabbfaagreatdoor", sum := "9b86ce7450a5d40c3f676aa201535e5854104d7874eb6a830105866b73788fc5", func := "wordbook/wordbooklaw07.RegexLanguage", spec := "regexLanguage", inPlace := ["internal/bytealg.IndexByteString"], unfollowed := true, recurses := true, named := ["math/bits.deBruijn64tab"], apart := false, laid := [("math/bits.deBruijn64tab", laid_math_bits_deBruijn64tab)] }
def RegexLanguageSaid : Prop := regexLanguageRow.holds Tryz.pinned (OpenSpec.ofChange regexLanguageSpec)

/-- ITS FALSE NEIGHBOUR: 'it returns false'. Refute it at one input. -/
def regexLanguageWrong : ChangeSpec := { name := "regexLanguage", fn := fun _ => fun
  | [d1, d2] => { results := [.lit (.bool false)], args := [d1, d2] }
  | _ => none }
def RegexLanguageWrongFalsely : Prop := regexLanguageRow.holds Tryz.pinned (OpenSpec.ofChange regexLanguageWrong)

/-- 'wordbooklaw07.RegexOperations': WHATEVER THE INPUT: true; the input reads as it did. -/
def regexOperationsSpec : ChangeSpec := { name := "regexOperations", fn := fun _ => fun
  | [d1, d2, d3] => { results := [.lit (.bool true)], args := [d1, d2, d3] }
  | _ => none }
def regexOperationsRow : OpenClaim := { program := "ytakcjlimbabbfaagreatdoor", sum := "9b86ce7450a5d40c3f676aa201535e5854104d7874eb6a830105866b73788fc5", func := "wordbook/wordbooklaw07.RegexOperations", spec := "regexOperations", inPlace := ["internal/bytealg.IndexByteString"], unfollowed := true, recurses := true, named := ["math/bits.deBruijn64tab"], apart := false, laid := [("math/bits.deBruijn64tab", laid_math_bits_deBruijn64tab)] }
def RegexOperationsSaid : Prop := regexOperationsRow.holds Tryz.pinned (OpenSpec.ofChange regexOperationsSpec)

/-- ITS FALSE NEIGHBOUR: 'it returns false'. Refute it at one input. -/
def regexOperationsWrong : ChangeSpec := { name := "regexOperations", fn := fun _ => fun
  | [d1, d2, d3] => { results := [.lit (.bool false)], args := [d1, d2, d3] }
  | _ => none }
def RegexOperationsWrongFalsely : Prop := regexOperationsRow.holds Tryz.pinned (OpenSpec.ofChange regexOperationsWrong)

/-- 'wordbooklaw07.RegexNormal': WHATEVER THE INPUT: true; the input reads as it did. -/
def regexNormalSpec : ChangeSpec := { name := "regexNormal", fn := fun _ => fun
  | [d1, d2] => { results := [.lit (.bool true)], args := [d1, d2] }
  | _ => none }
def regexNormalRow : OpenClaim := { program := "ytakcjlimbabbfaagreatdoor", sum := "9b86ce7450a5d40c3f676aa201535e5854104d7874eb6a830105866b73788fc5", func := "wordbook/wordbooklaw07.RegexNormal", spec := "regexNormal", inPlace := ["internal/bytealg.IndexByteString"], unfollowed := true, recurses := true, named := ["math/bits.deBruijn64tab"], apart := false, laid := [("math/bits.deBruijn64tab", laid_math_bits_deBruijn64tab)] }
def RegexNormalSaid : Prop := regexNormalRow.holds Tryz.pinned (OpenSpec.ofChange regexNormalSpec)

/-- ITS FALSE NEIGHBOUR: 'it returns false'. Refute it at one input. -/
def regexNormalWrong : ChangeSpec := { name := "regexNormal", fn := fun _ => fun
  | [d1, d2] => { results := [.lit (.bool false)], args := [d1, d2] }
  | _ => none }
def RegexNormalWrongFalsely : Prop := regexNormalRow.holds Tryz.pinned (OpenSpec.ofChange regexNormalWrong)

/-- 'wordbooklaw07.RegexPatterns': WHATEVER THE INPUT: true; the input reads as it did. -/
def regexPatternsSpec : ChangeSpec := { name := "regexPatterns", fn := fun _ => fun
  | [d1, d2] => { results := [.lit (.bool true)], args := [d1, d2] }
  | _ => none }
def regexPatternsRow : OpenClaim := { program := "ytakcjlimbabbfaagreatdoor", sum := "9b86ce7450a5d40c3f676aa201535e5854104d7874eb6a830105866b73788fc5", func := "wordbook/wordbooklaw07.RegexPatterns", spec := "regexPatterns", inPlace := ["internal/bytealg.IndexByteString"], unfollowed := true, recurses := true, named := ["math/bits.deBruijn64tab"], apart := false, laid := [("math/bits.deBruijn64tab", laid_math_bits_deBruijn64tab)] }
def RegexPatternsSaid : Prop := regexPatternsRow.holds Tryz.pinned (OpenSpec.ofChange regexPatternsSpec)

/-- ITS FALSE NEIGHBOUR: 'it returns false'. Refute it at one input. -/
def regexPatternsWrong : ChangeSpec := { name := "regexPatterns", fn := fun _ => fun
  | [d1, d2] => { results := [.lit (.bool false)], args := [d1, d2] }
  | _ => none }
def RegexPatternsWrongFalsely : Prop := regexPatternsRow.holds Tryz.pinned (OpenSpec.ofChange regexPatternsWrong)

/- THE SECOND FORM. 'bulk': how many values and letters a reading holds, each counted each time it is reached (what is shared counts as often as it is met; a slice's spare places count too). A statement '..UptoSaid' is the law's where the arguments, and the package variables that the reading takes, are together of bulk at most 1048576: NARROWER than '..Said'. Prove '..Said' where nothing that the law and all that it calls make is longer than what came in: it says more and counts as full. Else prove '..UptoSaid'. A law counts once. -/
mutual
def uptoBulk {H : Type} : DataW H → Nat
  | .lit (.string bytes) => bytes.length + 1
  | .lit _ => 1
  | .nil => 1
  | .ptr d => uptoBulk d + 1
  | .slice elems spare => uptoBulkAll elems + uptoBulkAll spare + 1
  | .agg parts => uptoBulkAll parts + 1
  | .iface _ d => uptoBulk d + 1
  | .map entries => uptoBulkEntries entries + 1
  | .held _ => 1
def uptoBulkAll {H : Type} : List (DataW H) → Nat
  | [] => 0
  | d :: r => uptoBulk d + uptoBulkAll r
def uptoBulkEntries {H : Type} : List (Lit × DataW H) → Nat
  | [] => 0
  | x :: r => uptoBulkEntry x + uptoBulkEntries r
def uptoBulkEntry {H : Type} : Lit × DataW H → Nat
  | (.string bytes, d) => bytes.length + uptoBulk d + 1
  | (_, d) => uptoBulk d + 1
 end
def uptoSmall : (H : Type) → List (DataW H) → Bool := fun _ ds => decide (uptoBulkAll ds ≤ 1048576)
def OpenSpec.upto (s : _root_.Go.ChangeSpec) : _root_.Go.OpenSpec := { _root_.Go.OpenSpec.ofChange s with cond := some uptoSmall }

/-- 'wordbooklaw07.RegexForms', WHERE WHAT IT READS IS OF BULK AT MOST 1048576: true; the input reads as it did. -/
def regexFormsUptoRow : OpenClaim := { program := "ytakcjlimbabbfaagreatdoor", sum := "9b86ce7450a5d40c3f676aa201535e5854104d7874eb6a830105866b73788fc5", func := "wordbook/wordbooklaw07.RegexForms", spec := "regexForms", inPlace := ["internal/bytealg.IndexByteString"], unfollowed := true, recurses := true, named := ["math/bits.deBruijn64tab"], loops := true, apart := false, laid := [("math/bits.deBruijn64tab", laid_math_bits_deBruijn64tab)], narrowed := true }
def RegexFormsUptoSaid : Prop := regexFormsUptoRow.holds Tryz.pinned (OpenSpec.upto regexFormsSpec)

/-- 'wordbooklaw07.RegexDerives', WHERE WHAT IT READS IS OF BULK AT MOST 1048576: true; the input reads as it did. -/
def regexDerivesUptoRow : OpenClaim := { program := "ytakcjlimbabbfaagreatdoor", sum := "9b86ce7450a5d40c3f676aa201535e5854104d7874eb6a830105866b73788fc5", func := "wordbook/wordbooklaw07.RegexDerives", spec := "regexDerives", inPlace := ["internal/bytealg.IndexByteString"], unfollowed := true, recurses := true, named := ["math/bits.deBruijn64tab"], loops := true, apart := false, laid := [("math/bits.deBruijn64tab", laid_math_bits_deBruijn64tab)], narrowed := true }
def RegexDerivesUptoSaid : Prop := regexDerivesUptoRow.holds Tryz.pinned (OpenSpec.upto regexDerivesSpec)

/-- 'wordbooklaw07.RegexMatches', WHERE WHAT IT READS IS OF BULK AT MOST 1048576: true; the input reads as it did. -/
def regexMatchesUptoRow : OpenClaim := { program := "ytakcjlimbabbfaagreatdoor", sum := "9b86ce7450a5d40c3f676aa201535e5854104d7874eb6a830105866b73788fc5", func := "wordbook/wordbooklaw07.RegexMatches", spec := "regexMatches", inPlace := ["internal/bytealg.IndexByteString"], unfollowed := true, recurses := true, named := ["math/bits.deBruijn64tab"], loops := true, apart := false, laid := [("math/bits.deBruijn64tab", laid_math_bits_deBruijn64tab)], narrowed := true }
def RegexMatchesUptoSaid : Prop := regexMatchesUptoRow.holds Tryz.pinned (OpenSpec.upto regexMatchesSpec)

/-- 'wordbooklaw07.RegexReads', WHERE WHAT IT READS IS OF BULK AT MOST 1048576: true; the input reads as it did. -/
def regexReadsUptoRow : OpenClaim := { program := "ytakcjlimbabbfaagreatdoor", sum := "9b86ce7450a5d40c3f676aa201535e5854104d7874eb6a830105866b73788fc5", func := "wordbook/wordbooklaw07.RegexReads", spec := "regexReads", inPlace := ["internal/bytealg.IndexByteString"], unfollowed := true, recurses := true, named := ["math/bits.deBruijn64tab"], apart := false, laid := [("math/bits.deBruijn64tab", laid_math_bits_deBruijn64tab)], narrowed := true }
def RegexReadsUptoSaid : Prop := regexReadsUptoRow.holds Tryz.pinned (OpenSpec.upto regexReadsSpec)

/-- 'wordbooklaw07.RegexWrites', WHERE WHAT IT READS IS OF BULK AT MOST 1048576: true; the input reads as it did. -/
def regexWritesUptoRow : OpenClaim := { program := "ytakcjlimbabbfaagreatdoor", sum := "9b86ce7450a5d40c3f676aa201535e5854104d7874eb6a830105866b73788fc5", func := "wordbook/wordbooklaw07.RegexWrites", spec := "regexWrites", inPlace := ["internal/bytealg.IndexByteString"], unfollowed := true, recurses := true, named := ["math/bits.deBruijn64tab"], loops := true, apart := false, laid := [("math/bits.deBruijn64tab", laid_math_bits_deBruijn64tab)], narrowed := true }
def RegexWritesUptoSaid : Prop := regexWritesUptoRow.holds Tryz.pinned (OpenSpec.upto regexWritesSpec)

/-- 'wordbooklaw07.RegexLanguage', WHERE WHAT IT READS IS OF BULK AT MOST 1048576: true; the input reads as it did. -/
def regexLanguageUptoRow : OpenClaim := { program := "ytakcjlimbabbfaagreatdoor", sum := "9b86ce7450a5d40c3f676aa201535e5854104d7874eb6a830105866b73788fc5", func := "wordbook/wordbooklaw07.RegexLanguage", spec := "regexLanguage", inPlace := ["internal/bytealg.IndexByteString"], unfollowed := true, recurses := true, named := ["math/bits.deBruijn64tab"], apart := false, laid := [("math/bits.deBruijn64tab", laid_math_bits_deBruijn64tab)], narrowed := true }
def RegexLanguageUptoSaid : Prop := regexLanguageUptoRow.holds Tryz.pinned (OpenSpec.upto regexLanguageSpec)

/-- 'wordbooklaw07.RegexOperations', WHERE WHAT IT READS IS OF BULK AT MOST 1048576: true; the input reads as it did. -/
def regexOperationsUptoRow : OpenClaim := { program := "ytakcjlimbabbfaagreatdoor", sum := "9b86ce7450a5d40c3f676aa201535e5854104d7874eb6a830105866b73788fc5", func := "wordbook/wordbooklaw07.RegexOperations", spec := "regexOperations", inPlace := ["internal/bytealg.IndexByteString"], unfollowed := true, recurses := true, named := ["math/bits.deBruijn64tab"], apart := false, laid := [("math/bits.deBruijn64tab", laid_math_bits_deBruijn64tab)], narrowed := true }
def RegexOperationsUptoSaid : Prop := regexOperationsUptoRow.holds Tryz.pinned (OpenSpec.upto regexOperationsSpec)

/-- 'wordbooklaw07.RegexNormal', WHERE WHAT IT READS IS OF BULK AT MOST 1048576: true; the input reads as it did. -/
def regexNormalUptoRow : OpenClaim := { program := "ytakcjlimbabbfaagreatdoor", sum := "9b86ce7450a5d40c3f676aa201535e5854104d7874eb6a830105866b73788fc5", func := "wordbook/wordbooklaw07.RegexNormal", spec := "regexNormal", inPlace := ["internal/bytealg.IndexByteString"], unfollowed := true, recurses := true, named := ["math/bits.deBruijn64tab"], apart := false, laid := [("math/bits.deBruijn64tab", laid_math_bits_deBruijn64tab)], narrowed := true }
def RegexNormalUptoSaid : Prop := regexNormalUptoRow.holds Tryz.pinned (OpenSpec.upto regexNormalSpec)

/-- 'wordbooklaw07.RegexPatterns', WHERE WHAT IT READS IS OF BULK AT MOST 1048576: true; the input reads as it did. -/
def regexPatternsUptoRow : OpenClaim := { program := "ytakcjlimbabbfaagreatdoor", sum := "9b86ce7450a5d40c3f676aa201535e5854104d7874eb6a830105866b73788fc5", func := "wordbook/wordbooklaw07.RegexPatterns", spec := "regexPatterns", inPlace := ["internal/bytealg.IndexByteString"], unfollowed := true, recurses := true, named := ["math/bits.deBruijn64tab"], apart := false, laid := [("math/bits.deBruijn64tab", laid_math_bits_deBruijn64tab)], narrowed := true }
def RegexPatternsUptoSaid : Prop := regexPatternsUptoRow.holds Tryz.pinned (OpenSpec.upto regexPatternsSpec)

end Rows
end Go.Proofs.YtakcjlimbabbfaaGreatDoor
