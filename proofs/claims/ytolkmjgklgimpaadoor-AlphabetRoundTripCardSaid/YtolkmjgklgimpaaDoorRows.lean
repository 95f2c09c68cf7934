/-
  NARROWER THAN 'FOR EVERY INPUT', by the rows' own cells (each row's printed sentence says how): AlphabetReads: laid · AlphabetWrites: laid · AlphabetParses: laid · AlphabetRoundTrip: laid · AlphabetLongest: laid · AlphabetSafe: laid.
  DERIVED. THE GIVEN ROWS OF THIS SEAT. 6 by the template 'for every input the law returns true; each argument reads behind the call as it read before'; 0 by the template 'total and deterministic' (their statements: YtolkmjgklgimpaaDoorTotals.lean).
  GIVEN WITH THE SEED: the statements are not yours to turn. If you find one false, say at which input.
  Laid BY PROGRAM, IN A SANDBOX (cutbox-rows.mjs): the forced cells as the released guide's own fill.sh prints them over the translation 0cb7e35b1d9a500d… (all of the seat's roots in one cut). By AI agents, Wed Nov 11 2026. No macro, syntax, notation, axiom, sorry.
-/
import Derived.Test.YtolkmjgklgimpaaDoorChecked
import GoSem.PinnedTables
import GoSem.Claim
import GoSem.ClaimJoined
import GoSem.ClaimMapViews
import Derived.JoinedTies
import Derived.KernelRfl
namespace Go.Proofs.YtolkmjgklgimpaaDoor
/- THE CELL 'sum', in the pinned program and in every row, IS THE sha256 OF THE DUMP (.gsa) THAT YtolkmjgklgimpaaDoorProg.lean LOADS. Nothing in Lean hashes anything: it is a label: what it is worth is what the hold of that sum in a sandbox is worth. -/
noncomputable def Tryd.pinned : Pinned := { name := "ytolkmjgklgimpaadoor", sum := "0cb7e35b1d9a500d404ccf38a2552ebdd474a8a1c4290640022efd6d664b120f", checked := Tryd.checked }
namespace Rows
def none {H : Type} : Left H := { results := [], args := [] }

/- WHAT THE LISTED PACKAGE-LEVEL VARIABLES READ AS WHEN THE CALL BEGINS. Each datum BY PROGRAM (the guide's laid-datum.mjs) off the statement by which the dump's own 'gosem.cut.vars' lays the variable. In a bare row this is a premise. The card (YtolkmjgklgimpaaDoorCards.lean) ties it to the program's text. -/
def laid_unicode_utf8_acceptRanges {H : Type} : DataW H := .agg [.agg [.lit (.int .u8 128), .lit (.int .u8 191)], .agg [.lit (.int .u8 160), .lit (.int .u8 191)], .agg [.lit (.int .u8 128), .lit (.int .u8 159)], .agg [.lit (.int .u8 144), .lit (.int .u8 191)], .agg [.lit (.int .u8 128), .lit (.int .u8 143)], .agg [.lit (.int .u8 0), .lit (.int .u8 0)], .agg [.lit (.int .u8 0), .lit (.int .u8 0)], .agg [.lit (.int .u8 0), .lit (.int .u8 0)], .agg [.lit (.int .u8 0), .lit (.int .u8 0)], .agg [.lit (.int .u8 0), .lit (.int .u8 0)], .agg [.lit (.int .u8 0), .lit (.int .u8 0)], .agg [.lit (.int .u8 0), .lit (.int .u8 0)], .agg [.lit (.int .u8 0), .lit (.int .u8 0)], .agg [.lit (.int .u8 0), .lit (.int .u8 0)], .agg [.lit (.int .u8 0), .lit (.int .u8 0)], .agg [.lit (.int .u8 0), .lit (.int .u8 0)]]
/-- One of Go's own tables, pinned by name: the form's constant. -/
def laid_unicode_utf8_first : DataW Unit := Go.Pinned.utf8First
def laid_math_bits_deBruijn32tab {H : Type} : DataW H := .agg [.lit (.int .u8 0), .lit (.int .u8 1), .lit (.int .u8 28), .lit (.int .u8 2), .lit (.int .u8 29), .lit (.int .u8 14), .lit (.int .u8 24), .lit (.int .u8 3), .lit (.int .u8 30), .lit (.int .u8 22), .lit (.int .u8 20), .lit (.int .u8 15), .lit (.int .u8 25), .lit (.int .u8 17), .lit (.int .u8 4), .lit (.int .u8 8), .lit (.int .u8 31), .lit (.int .u8 27), .lit (.int .u8 13), .lit (.int .u8 23), .lit (.int .u8 21), .lit (.int .u8 19), .lit (.int .u8 16), .lit (.int .u8 7), .lit (.int .u8 26), .lit (.int .u8 12), .lit (.int .u8 18), .lit (.int .u8 6), .lit (.int .u8 11), .lit (.int .u8 5), .lit (.int .u8 10), .lit (.int .u8 9)]
def laid_math_bits_deBruijn64tab {H : Type} : DataW H := .agg [.lit (.int .u8 0), .lit (.int .u8 1), .lit (.int .u8 56), .lit (.int .u8 2), .lit (.int .u8 57), .lit (.int .u8 49), .lit (.int .u8 28), .lit (.int .u8 3), .lit (.int .u8 61), .lit (.int .u8 58), .lit (.int .u8 42), .lit (.int .u8 50), .lit (.int .u8 38), .lit (.int .u8 29), .lit (.int .u8 17), .lit (.int .u8 4), .lit (.int .u8 62), .lit (.int .u8 47), .lit (.int .u8 59), .lit (.int .u8 36), .lit (.int .u8 45), .lit (.int .u8 43), .lit (.int .u8 51), .lit (.int .u8 22), .lit (.int .u8 53), .lit (.int .u8 39), .lit (.int .u8 33), .lit (.int .u8 30), .lit (.int .u8 24), .lit (.int .u8 18), .lit (.int .u8 12), .lit (.int .u8 5), .lit (.int .u8 63), .lit (.int .u8 55), .lit (.int .u8 48), .lit (.int .u8 27), .lit (.int .u8 60), .lit (.int .u8 41), .lit (.int .u8 37), .lit (.int .u8 16), .lit (.int .u8 46), .lit (.int .u8 35), .lit (.int .u8 44), .lit (.int .u8 21), .lit (.int .u8 52), .lit (.int .u8 32), .lit (.int .u8 23), .lit (.int .u8 11), .lit (.int .u8 54), .lit (.int .u8 26), .lit (.int .u8 40), .lit (.int .u8 15), .lit (.int .u8 34), .lit (.int .u8 20), .lit (.int .u8 31), .lit (.int .u8 10), .lit (.int .u8 25), .lit (.int .u8 14), .lit (.int .u8 19), .lit (.int .u8 9), .lit (.int .u8 13), .lit (.int .u8 8), .lit (.int .u8 7), .lit (.int .u8 6)]
def laid_internal_strconv_uint64pow10 {H : Type} : DataW H := .agg [.lit (.int .u64 1), .lit (.int .u64 10), .lit (.int .u64 100), .lit (.int .u64 1000), .lit (.int .u64 10000), .lit (.int .u64 100000), .lit (.int .u64 1000000), .lit (.int .u64 10000000), .lit (.int .u64 100000000), .lit (.int .u64 1000000000), .lit (.int .u64 10000000000), .lit (.int .u64 100000000000), .lit (.int .u64 1000000000000), .lit (.int .u64 10000000000000), .lit (.int .u64 100000000000000), .lit (.int .u64 1000000000000000), .lit (.int .u64 10000000000000000), .lit (.int .u64 100000000000000000), .lit (.int .u64 1000000000000000000), .lit (.int .u64 10000000000000000000)]

/-- 'wordbooklaw05.AlphabetReads': WHATEVER THE INPUT: true; the input reads as it did. -/
def alphabetReadsSpec : ChangeSpec := { name := "alphabetReads", fn := fun _ => fun
  | [d1, d2, d3] => { results := [.lit (.bool true)], args := [d1, d2, d3] }
  | _ => none }
def alphabetReadsRow : OpenClaim := { program := "ytolkmjgklgimpaadoor", sum := "0cb7e35b1d9a500d404ccf38a2552ebdd474a8a1c4290640022efd6d664b120f", func := "wordbook/wordbooklaw05.AlphabetReads", spec := "alphabetReads", inPlace := ["internal/bytealg.IndexByteString", "internal/bytealg.IndexString", "internal/bytealg.CountString"], unfollowed := true, recurses := true, named := ["internal/bytealg.MaxLen", "unicode/utf8.first", "unicode/utf8.acceptRanges"], apart := false, laid := [("unicode/utf8.acceptRanges", laid_unicode_utf8_acceptRanges), ("unicode/utf8.first", laid_unicode_utf8_first)] }
def AlphabetReadsSaid : Prop := alphabetReadsRow.holds Tryd.pinned (OpenSpec.ofChange alphabetReadsSpec)

/-- ITS FALSE NEIGHBOUR: 'it returns false'. Refute it at one input. -/
def alphabetReadsWrong : ChangeSpec := { name := "alphabetReads", fn := fun _ => fun
  | [d1, d2, d3] => { results := [.lit (.bool false)], args := [d1, d2, d3] }
  | _ => none }
def AlphabetReadsWrongFalsely : Prop := alphabetReadsRow.holds Tryd.pinned (OpenSpec.ofChange alphabetReadsWrong)

/-- 'wordbooklaw05.AlphabetWrites': WHATEVER THE INPUT: true; the input reads as it did. -/
def alphabetWritesSpec : ChangeSpec := { name := "alphabetWrites", fn := fun _ => fun
  | [d1, d2, d3] => { results := [.lit (.bool true)], args := [d1, d2, d3] }
  | _ => none }
def alphabetWritesRow : OpenClaim := { program := "ytolkmjgklgimpaadoor", sum := "0cb7e35b1d9a500d404ccf38a2552ebdd474a8a1c4290640022efd6d664b120f", func := "wordbook/wordbooklaw05.AlphabetWrites", spec := "alphabetWrites", inPlace := ["internal/bytealg.IndexByteString", "internal/bytealg.IndexString", "internal/bytealg.CountString"], unfollowed := true, recurses := true, named := ["internal/bytealg.MaxLen", "unicode/utf8.first", "unicode/utf8.acceptRanges"], apart := false, laid := [("unicode/utf8.acceptRanges", laid_unicode_utf8_acceptRanges), ("unicode/utf8.first", laid_unicode_utf8_first)] }
def AlphabetWritesSaid : Prop := alphabetWritesRow.holds Tryd.pinned (OpenSpec.ofChange alphabetWritesSpec)

/-- ITS FALSE NEIGHBOUR: 'it returns false'. Refute it at one input. -/
def alphabetWritesWrong : ChangeSpec := { name := "alphabetWrites", fn := fun _ => fun
  | [d1, d2, d3] => { results := [.lit (.bool false)], args := [d1, d2, d3] }
  | _ => none }
def AlphabetWritesWrongFalsely : Prop := alphabetWritesRow.holds Tryd.pinned (OpenSpec.ofChange alphabetWritesWrong)

/-- 'wordbooklaw05.AlphabetParses': WHATEVER THE INPUT: true; the input reads as it did. -/
def alphabetParsesSpec : ChangeSpec := { name := "alphabetParses", fn := fun _ => fun
  | [d1, d2, d3, d4, d5] => { results := [.lit (.bool true)], args := [d1, d2, d3, d4, d5] }
  | _ => none }
def alphabetParsesRow : OpenClaim := { program := "ytolkmjgklgimpaadoor", sum := "0cb7e35b1d9a500d404ccf38a2552ebdd474a8a1c4290640022efd6d664b120f", func := "wordbook/wordbooklaw05.AlphabetParses", spec := "alphabetParses", inPlace := ["internal/bytealg.IndexByteString", "internal/bytealg.IndexString", "internal/bytealg.CountString"], unfollowed := true, recurses := true, named := ["internal/bytealg.MaxLen", "unicode/utf8.first", "unicode/utf8.acceptRanges"], apart := false, laid := [("unicode/utf8.acceptRanges", laid_unicode_utf8_acceptRanges), ("unicode/utf8.first", laid_unicode_utf8_first)] }
def AlphabetParsesSaid : Prop := alphabetParsesRow.holds Tryd.pinned (OpenSpec.ofChange alphabetParsesSpec)

/-- ITS FALSE NEIGHBOUR: 'it returns false'. Refute it at one input. -/
def alphabetParsesWrong : ChangeSpec := { name := "alphabetParses", fn := fun _ => fun
  | [d1, d2, d3, d4, d5] => { results := [.lit (.bool false)], args := [d1, d2, d3, d4, d5] }
  | _ => none }
def AlphabetParsesWrongFalsely : Prop := alphabetParsesRow.holds Tryd.pinned (OpenSpec.ofChange alphabetParsesWrong)

/-- 'wordbooklaw05.AlphabetRoundTrip': WHATEVER THE INPUT: true; the input reads as it did. -/
def alphabetRoundTripSpec : ChangeSpec := { name := "alphabetRoundTrip", fn := fun _ => fun
  | [d1, d2, d3, d4] => { results := [.lit (.bool true)], args := [d1, d2, d3, d4] }
  | _ => none }
def alphabetRoundTripRow : OpenClaim := { program := "ytolkmjgklgimpaadoor", sum := "0cb7e35b1d9a500d404ccf38a2552ebdd474a8a1c4290640022efd6d664b120f", func := "wordbook/wordbooklaw05.AlphabetRoundTrip", spec := "alphabetRoundTrip", inPlace := ["internal/bytealg.IndexByteString", "internal/bytealg.IndexString", "internal/bytealg.CountString"], unfollowed := true, recurses := true, named := ["internal/strconv.uint64pow10", "math/bits.deBruijn32tab", "math/bits.deBruijn64tab", "internal/bytealg.MaxLen", "unicode/utf8.first", "unicode/utf8.acceptRanges"], apart := false, laid := [("math/bits.deBruijn32tab", laid_math_bits_deBruijn32tab), ("math/bits.deBruijn64tab", laid_math_bits_deBruijn64tab), ("internal/strconv.uint64pow10", laid_internal_strconv_uint64pow10), ("unicode/utf8.acceptRanges", laid_unicode_utf8_acceptRanges), ("unicode/utf8.first", laid_unicode_utf8_first)] }
def AlphabetRoundTripSaid : Prop := alphabetRoundTripRow.holds Tryd.pinned (OpenSpec.ofChange alphabetRoundTripSpec)

/-- ITS FALSE NEIGHBOUR: 'it returns false'. Refute it at one input. -/
def alphabetRoundTripWrong : ChangeSpec := { name := "alphabetRoundTrip", fn := fun _ => fun
  | [d1, d2, d3, d4] => { results := [.lit (.bool false)], args := [d1, d2, d3, d4] }
  | _ => none }
def AlphabetRoundTripWrongFalsely : Prop := alphabetRoundTripRow.holds Tryd.pinned (OpenSpec.ofChange alphabetRoundTripWrong)

/-- 'wordbooklaw05.AlphabetLongest': WHATEVER THE INPUT: true; the input reads as it did. -/
def alphabetLongestSpec : ChangeSpec := { name := "alphabetLongest", fn := fun _ => fun
  | [d1, d2, d3] => { results := [.lit (.bool true)], args := [d1, d2, d3] }
  | _ => none }
def alphabetLongestRow : OpenClaim := { program := "ytolkmjgklgimpaadoor", sum := "0cb7e35b1d9a500d404ccf38a2552ebdd474a8a1c4290640022efd6d664b120f", func := "wordbook/wordbooklaw05.AlphabetLongest", spec := "alphabetLongest", inPlace := ["internal/bytealg.IndexByteString", "internal/bytealg.IndexString", "internal/bytealg.CountString"], unfollowed := true, recurses := true, named := ["internal/bytealg.MaxLen", "unicode/utf8.first", "unicode/utf8.acceptRanges"], apart := false, laid := [("unicode/utf8.acceptRanges", laid_unicode_utf8_acceptRanges), ("unicode/utf8.first", laid_unicode_utf8_first)] }
def AlphabetLongestSaid : Prop := alphabetLongestRow.holds Tryd.pinned (OpenSpec.ofChange alphabetLongestSpec)

/-- ITS FALSE NEIGHBOUR: 'it returns false'. Refute it at one input. -/
def alphabetLongestWrong : ChangeSpec := { name := "alphabetLongest", fn := fun _ => fun
  | [d1, d2, d3] => { results := [.lit (.bool false)], args := [d1, d2, d3] }
  | _ => none }
def AlphabetLongestWrongFalsely : Prop := alphabetLongestRow.holds Tryd.pinned (OpenSpec.ofChange alphabetLongestWrong)

/-- 'wordbooklaw05.AlphabetSafe': WHATEVER THE INPUT: true; the input reads as it did. -/
def alphabetSafeSpec : ChangeSpec := { name := "alphabetSafe", fn := fun _ => fun
  | [d1, d2] => { results := [.lit (.bool true)], args := [d1, d2] }
  | _ => none }
def alphabetSafeRow : OpenClaim := { program := "ytolkmjgklgimpaadoor", sum := "0cb7e35b1d9a500d404ccf38a2552ebdd474a8a1c4290640022efd6d664b120f", func := "wordbook/wordbooklaw05.AlphabetSafe", spec := "alphabetSafe", inPlace := ["internal/bytealg.IndexByteString", "internal/bytealg.IndexString", "internal/bytealg.CountString"], unfollowed := true, recurses := true, named := ["internal/bytealg.MaxLen", "unicode/utf8.first", "unicode/utf8.acceptRanges"], apart := false, laid := [("unicode/utf8.acceptRanges", laid_unicode_utf8_acceptRanges), ("unicode/utf8.first", laid_unicode_utf8_first)] }
def AlphabetSafeSaid : Prop := alphabetSafeRow.holds Tryd.pinned (OpenSpec.ofChange alphabetSafeSpec)

/-- ITS FALSE NEIGHBOUR: 'it returns false'. Refute it at one input. -/
def alphabetSafeWrong : ChangeSpec := { name := "alphabetSafe", fn := fun _ => fun
  | [d1, d2] => { results := [.lit (.bool false)], args := [d1, d2] }
  | _ => none }
def AlphabetSafeWrongFalsely : Prop := alphabetSafeRow.holds Tryd.pinned (OpenSpec.ofChange alphabetSafeWrong)

/- THE SECOND FORM. 'bulk': how many values and letters a reading holds, each counted each time it is reached (what is shared counts as often as it is met; a slice's spare places count too). A statement '..UptoSaid' is the law's where the arguments, and the package variables that the reading takes, are together of bulk at most 1048576: NARROWER than '..Said'. Prove '..Said' where nothing that the law and all that it calls make is longer than what came in: it says more and counts as full. Else prove '..UptoSaid'. A law counts once. -/
mutual
def uptoBulk {H : Type} : DataW H → Nat
  | .lit (.string bytes) => bytes.length + 1
  | .lit _ => 1
  | .nil => 1
  | .ptr d => uptoBulk d + 1
  | .slice elems spare => uptoBulkAll elems + uptoBulkAll spare + 1
  | .agg parts => uptoBulkAll parts + 1
  | .iface _ d => uptoBulk d + 1
  | .map entries => uptoBulkEntries entries + 1
  | .held _ => 1
def uptoBulkAll {H : Type} : List (DataW H) → Nat
  | [] => 0
  | d :: r => uptoBulk d + uptoBulkAll r
def uptoBulkEntries {H : Type} : List (Lit × DataW H) → Nat
  | [] => 0
  | x :: r => uptoBulkEntry x + uptoBulkEntries r
def uptoBulkEntry {H : Type} : Lit × DataW H → Nat
  | (.string bytes, d) => bytes.length + uptoBulk d + 1
  | (_, d) => uptoBulk d + 1
 end
def uptoSmall : (H : Type) → List (DataW H) → Bool := fun _ ds => decide (uptoBulkAll ds ≤ 1048576)
def OpenSpec.upto (s : _root_.Go.ChangeSpec) : _root_.Go.OpenSpec := { _root_.Go.OpenSpec.ofChange s with cond := some uptoSmall }

/-- 'wordbooklaw05.AlphabetReads', WHERE WHAT IT READS IS OF BULK AT MOST 1048576: true; the input reads as it did. -/
def alphabetReadsUptoRow : OpenClaim := { program := "ytolkmjgklgimpaadoor", sum := "0cb7e35b1d9a500d404ccf38a2552ebdd474a8a1c4290640022efd6d664b120f", func := "wordbook/wordbooklaw05.AlphabetReads", spec := "alphabetReads", inPlace := ["internal/bytealg.IndexByteString", "internal/bytealg.IndexString", "internal/bytealg.CountString"], unfollowed := true, recurses := true, named := ["internal/bytealg.MaxLen", "unicode/utf8.first", "unicode/utf8.acceptRanges"], apart := false, laid := [("unicode/utf8.acceptRanges", laid_unicode_utf8_acceptRanges), ("unicode/utf8.first", laid_unicode_utf8_first)], narrowed := true }
def AlphabetReadsUptoSaid : Prop := alphabetReadsUptoRow.holds Tryd.pinned (OpenSpec.upto alphabetReadsSpec)

/-- 'wordbooklaw05.AlphabetWrites', WHERE WHAT IT READS IS OF BULK AT MOST 1048576: true; the input reads as it did. -/
def alphabetWritesUptoRow : OpenClaim := { program := "ytolkmjgklgimpaadoor", sum := "0cb7e35b1d9a500d404ccf38a2552ebdd474a8a1c4290640022efd6d664b120f", func := "wordbook/wordbooklaw05.AlphabetWrites", spec := "alphabetWrites", inPlace := ["internal/bytealg.IndexByteString", "internal/bytealg.IndexString", "internal/bytealg.CountString"], unfollowed := true, recurses := true, named := ["internal/bytealg.MaxLen", "unicode/utf8.first", "unicode/utf8.acceptRanges"], apart := false, laid := [("unicode/utf8.acceptRanges", laid_unicode_utf8_acceptRanges), ("unicode/utf8.first", laid_unicode_utf8_first)], narrowed := true }
def AlphabetWritesUptoSaid : Prop := alphabetWritesUptoRow.holds Tryd.pinned (OpenSpec.upto alphabetWritesSpec)

/-- 'wordbooklaw05.AlphabetParses', WHERE WHAT IT READS IS OF BULK AT MOST 1048576: true; the input reads as it did. -/
def alphabetParsesUptoRow : OpenClaim := { program := "ytolkmjgklgimpaadoor", sum := "0cb7e35b1d9a500d404ccf38a2552ebdd474a8a1c4290640022efd6d664b120f", func := "wordbook/wordbooklaw05.AlphabetParses", spec := "alphabetParses", inPlace := ["internal/bytealg.IndexByteString", "internal/bytealg.IndexString", "internal/bytealg.CountString"], unfollowed := true, recurses := true, named := ["internal/bytealg.MaxLen", "unicode/utf8.first", "unicode/utf8.acceptRanges"], apart := false, laid := [("unicode/utf8.acceptRanges", laid_unicode_utf8_acceptRanges), ("unicode/utf8.first", laid_unicode_utf8_first)], narrowed := true }
def AlphabetParsesUptoSaid : Prop := alphabetParsesUptoRow.holds Tryd.pinned (OpenSpec.upto alphabetParsesSpec)

/-- 'wordbooklaw05.AlphabetRoundTrip', WHERE WHAT IT READS IS OF BULK AT MOST 1048576: true; the input reads as it did. -/
def alphabetRoundTripUptoRow : OpenClaim := { program := "ytolkmjgklgimpaadoor", sum := "0cb7e35b1d9a500d404ccf38a2552ebdd474a8a1c4290640022efd6d664b120f", func := "wordbook/wordbooklaw05.AlphabetRoundTrip", spec := "alphabetRoundTrip", inPlace := ["internal/bytealg.IndexByteString", "internal/bytealg.IndexString", "internal/bytealg.CountString"], unfollowed := true, recurses := true, named := ["internal/strconv.uint64pow10", "math/bits.deBruijn32tab", "math/bits.deBruijn64tab", "internal/bytealg.MaxLen", "unicode/utf8.first", "unicode/utf8.acceptRanges"], apart := false, laid := [("math/bits.deBruijn32tab", laid_math_bits_deBruijn32tab), ("math/bits.deBruijn64tab", laid_math_bits_deBruijn64tab), ("internal/strconv.uint64pow10", laid_internal_strconv_uint64pow10), ("unicode/utf8.acceptRanges", laid_unicode_utf8_acceptRanges), ("unicode/utf8.first", laid_unicode_utf8_first)], narrowed := true }
def AlphabetRoundTripUptoSaid : Prop := alphabetRoundTripUptoRow.holds Tryd.pinned (OpenSpec.upto alphabetRoundTripSpec)

/-- 'wordbooklaw05.AlphabetLongest', WHERE WHAT IT READS IS OF BULK AT MOST 1048576: true; the input reads as it did. -/
def alphabetLongestUptoRow : OpenClaim := { program := "ytolkmjgklgimpaadoor", sum := "0cb7e35b1d9a500d404ccf38a2552ebdd474a8a1c4290640022efd6d664b120f", func := "wordbook/wordbooklaw05.AlphabetLongest", spec := "alphabetLongest", inPlace := ["internal/bytealg.IndexByteString", "internal/bytealg.IndexString", "internal/bytealg.CountString"], unfollowed := true, recurses := true, named := ["internal/bytealg.MaxLen", "unicode/utf8.first", "unicode/utf8.acceptRanges"], apart := false, laid := [("unicode/utf8.acceptRanges", laid_unicode_utf8_acceptRanges), ("unicode/utf8.first", laid_unicode_utf8_first)], narrowed := true }
def AlphabetLongestUptoSaid : Prop := alphabetLongestUptoRow.holds Tryd.pinned (OpenSpec.upto alphabetLongestSpec)

/-- 'wordbooklaw05.AlphabetSafe', WHERE WHAT IT READS IS OF BULK AT MOST 1048576: true; the input reads as it did. -/
def alphabetSafeUptoRow : OpenClaim := { program := "ytolkmjgklgimpaadoor", sum := "0cb7e35b1d9a500d404ccf38a2552ebdd474a8a1c4290640022efd6d664b120f", func := "wordbook/wordbooklaw05.AlphabetSafe", spec := "alphabetSafe", inPlace := ["internal/bytealg.IndexByteString", "internal/bytealg.IndexString", "internal/bytealg.CountString"], unfollowed := true, recurses := true, named := ["internal/bytealg.MaxLen", "unicode/utf8.first", "unicode/utf8.acceptRanges"], apart := false, laid := [("unicode/utf8.acceptRanges", laid_unicode_utf8_acceptRanges), ("unicode/utf8.first", laid_unicode_utf8_first)], narrowed := true }
def AlphabetSafeUptoSaid : Prop := alphabetSafeUptoRow.holds Tryd.pinned (OpenSpec.upto alphabetSafeSpec)

end Rows
end Go.Proofs.YtolkmjgklgimpaaDoor
