/-
  DERIVED. GIVEN WITH THE SEED: THE CARDS: each row of YtakcjlimbabbfaaGreatDoorRows.lean that lists a variable, with what it lists TIED to the program's text (the seventh form; the later family's looks); each row that meets fmt, with fmt's text TOLD by the authors' own Lean function (tested against real Go, not proved from fmt's source: count such statements apart). THE CARD IS WHAT COUNTS. Prove the row's statement (the work); the ties are given (YtakcjlimbabbfaaGreatDoorTie.lean); close each card by the builder's one call (the guide's Derived/Test/ToyasCard.lean, 'card_holds'). Laid BY PROGRAM, IN A SANDBOX (cutbox-door.mjs). By AI agents, Wed Nov 11 2026. No macro, syntax, notation, axiom, sorry.
-/
import Derived.Test.YtakcjlimbabbfaaGreatDoorRows
import GoSem.ClaimSeven
namespace Go.Proofs.YtakcjlimbabbfaaGreatDoor
namespace Rows

/-- THE TIED CARD OF 'wordbooklaw07.RegexForms'. -/
def regexFormsCard : Claim7 := { stood := { row := regexFormsRow, standIns := [], harness := (true, "40894faff901b65b0b34db413771c260629a66f4b029ce98a033820a7eb2790d"), looks := false }, kinds := [], alts := [], laidByText := true, laidKinds := [.data], laidTests := true, laidLooks := .later }
def RegexFormsCardSaid : Prop := Claim7.holds Tryz.pinned (.plain (OpenSpec.ofChange regexFormsSpec)) regexFormsCard

/-- THE TIED CARD OF 'wordbooklaw07.RegexDerives'. -/
def regexDerivesCard : Claim7 := { stood := { row := regexDerivesRow, standIns := [], harness := (true, "40894faff901b65b0b34db413771c260629a66f4b029ce98a033820a7eb2790d"), looks := false }, kinds := [], alts := [], laidByText := true, laidKinds := [.data], laidTests := true, laidLooks := .later }
def RegexDerivesCardSaid : Prop := Claim7.holds Tryz.pinned (.plain (OpenSpec.ofChange regexDerivesSpec)) regexDerivesCard

/-- THE TIED CARD OF 'wordbooklaw07.RegexMatches'. -/
def regexMatchesCard : Claim7 := { stood := { row := regexMatchesRow, standIns := [], harness := (true, "40894faff901b65b0b34db413771c260629a66f4b029ce98a033820a7eb2790d"), looks := false }, kinds := [], alts := [], laidByText := true, laidKinds := [.data], laidTests := true, laidLooks := .later }
def RegexMatchesCardSaid : Prop := Claim7.holds Tryz.pinned (.plain (OpenSpec.ofChange regexMatchesSpec)) regexMatchesCard

/-- THE TIED CARD OF 'wordbooklaw07.RegexReads'. -/
def regexReadsCard : Claim7 := { stood := { row := regexReadsRow, standIns := [], harness := (true, "40894faff901b65b0b34db413771c260629a66f4b029ce98a033820a7eb2790d"), looks := false }, kinds := [], alts := [], laidByText := true, laidKinds := [.data], laidTests := true, laidLooks := .later }
def RegexReadsCardSaid : Prop := Claim7.holds Tryz.pinned (.plain (OpenSpec.ofChange regexReadsSpec)) regexReadsCard

/-- THE TIED CARD OF 'wordbooklaw07.RegexWrites'. -/
def regexWritesCard : Claim7 := { stood := { row := regexWritesRow, standIns := [], harness := (true, "40894faff901b65b0b34db413771c260629a66f4b029ce98a033820a7eb2790d"), looks := false }, kinds := [], alts := [], laidByText := true, laidKinds := [.data], laidTests := true, laidLooks := .later }
def RegexWritesCardSaid : Prop := Claim7.holds Tryz.pinned (.plain (OpenSpec.ofChange regexWritesSpec)) regexWritesCard

/-- THE TIED CARD OF 'wordbooklaw07.RegexLanguage'. -/
def regexLanguageCard : Claim7 := { stood := { row := regexLanguageRow, standIns := [], harness := (true, "40894faff901b65b0b34db413771c260629a66f4b029ce98a033820a7eb2790d"), looks := false }, kinds := [], alts := [], laidByText := true, laidKinds := [.data], laidTests := true, laidLooks := .later }
def RegexLanguageCardSaid : Prop := Claim7.holds Tryz.pinned (.plain (OpenSpec.ofChange regexLanguageSpec)) regexLanguageCard

/-- THE TIED CARD OF 'wordbooklaw07.RegexOperations'. -/
def regexOperationsCard : Claim7 := { stood := { row := regexOperationsRow, standIns := [], harness := (true, "40894faff901b65b0b34db413771c260629a66f4b029ce98a033820a7eb2790d"), looks := false }, kinds := [], alts := [], laidByText := true, laidKinds := [.data], laidTests := true, laidLooks := .later }
def RegexOperationsCardSaid : Prop := Claim7.holds Tryz.pinned (.plain (OpenSpec.ofChange regexOperationsSpec)) regexOperationsCard

/-- THE TIED CARD OF 'wordbooklaw07.RegexNormal'. -/
def regexNormalCard : Claim7 := { stood := { row := regexNormalRow, standIns := [], harness := (true, "40894faff901b65b0b34db413771c260629a66f4b029ce98a033820a7eb2790d"), looks := false }, kinds := [], alts := [], laidByText := true, laidKinds := [.data], laidTests := true, laidLooks := .later }
def RegexNormalCardSaid : Prop := Claim7.holds Tryz.pinned (.plain (OpenSpec.ofChange regexNormalSpec)) regexNormalCard

/-- THE TIED CARD OF 'wordbooklaw07.RegexPatterns'. -/
def regexPatternsCard : Claim7 := { stood := { row := regexPatternsRow, standIns := [], harness := (true, "40894faff901b65b0b34db413771c260629a66f4b029ce98a033820a7eb2790d"), looks := false }, kinds := [], alts := [], laidByText := true, laidKinds := [.data], laidTests := true, laidLooks := .later }
def RegexPatternsCardSaid : Prop := Claim7.holds Tryz.pinned (.plain (OpenSpec.ofChange regexPatternsSpec)) regexPatternsCard

/-- THE SECOND FORM's CARD OF 'wordbooklaw07.RegexForms'. -/
def regexFormsUptoCard : Claim7 := { stood := { row := regexFormsUptoRow, standIns := [], harness := (true, "40894faff901b65b0b34db413771c260629a66f4b029ce98a033820a7eb2790d"), looks := false }, kinds := [], alts := [], laidByText := true, laidKinds := [.data], laidTests := true, laidLooks := .later }
def RegexFormsUptoCardSaid : Prop := Claim7.holds Tryz.pinned (.plain (OpenSpec.upto regexFormsSpec)) regexFormsUptoCard

/-- THE SECOND FORM's CARD OF 'wordbooklaw07.RegexDerives'. -/
def regexDerivesUptoCard : Claim7 := { stood := { row := regexDerivesUptoRow, standIns := [], harness := (true, "40894faff901b65b0b34db413771c260629a66f4b029ce98a033820a7eb2790d"), looks := false }, kinds := [], alts := [], laidByText := true, laidKinds := [.data], laidTests := true, laidLooks := .later }
def RegexDerivesUptoCardSaid : Prop := Claim7.holds Tryz.pinned (.plain (OpenSpec.upto regexDerivesSpec)) regexDerivesUptoCard

/-- THE SECOND FORM's CARD OF 'wordbooklaw07.RegexMatches'. -/
def regexMatchesUptoCard : Claim7 := { stood := { row := regexMatchesUptoRow, standIns := [], harness := (true, "40894faff901b65b0b34db413771c260629a66f4b029ce98a033820a7eb2790d"), looks := false }, kinds := [], alts := [], laidByText := true, laidKinds := [.data], laidTests := true, laidLooks := .later }
def RegexMatchesUptoCardSaid : Prop := Claim7.holds Tryz.pinned (.plain (OpenSpec.upto regexMatchesSpec)) regexMatchesUptoCard

/-- THE SECOND FORM's CARD OF 'wordbooklaw07.RegexReads'. -/
def regexReadsUptoCard : Claim7 := { stood := { row := regexReadsUptoRow, standIns := [], harness := (true, "40894faff901b65b0b34db413771c260629a66f4b029ce98a033820a7eb2790d"), looks := false }, kinds := [], alts := [], laidByText := true, laidKinds := [.data], laidTests := true, laidLooks := .later }
def RegexReadsUptoCardSaid : Prop := Claim7.holds Tryz.pinned (.plain (OpenSpec.upto regexReadsSpec)) regexReadsUptoCard

/-- THE SECOND FORM's CARD OF 'wordbooklaw07.RegexWrites'. -/
def regexWritesUptoCard : Claim7 := { stood := { row := regexWritesUptoRow, standIns := [], harness := (true, "40894faff901b65b0b34db413771c260629a66f4b029ce98a033820a7eb2790d"), looks := false }, kinds := [], alts := [], laidByText := true, laidKinds := [.data], laidTests := true, laidLooks := .later }
def RegexWritesUptoCardSaid : Prop := Claim7.holds Tryz.pinned (.plain (OpenSpec.upto regexWritesSpec)) regexWritesUptoCard

/-- THE SECOND FORM's CARD OF 'wordbooklaw07.RegexLanguage'. -/
def regexLanguageUptoCard : Claim7 := { stood := { row := regexLanguageUptoRow, standIns := [], harness := (true, "40894faff901b65b0b34db413771c260629a66f4b029ce98a033820a7eb2790d"), looks := false }, kinds := [], alts := [], laidByText := true, laidKinds := [.data], laidTests := true, laidLooks := .later }
def RegexLanguageUptoCardSaid : Prop := Claim7.holds Tryz.pinned (.plain (OpenSpec.upto regexLanguageSpec)) regexLanguageUptoCard

/-- THE SECOND FORM's CARD OF 'wordbooklaw07.RegexOperations'. -/
def regexOperationsUptoCard : Claim7 := { stood := { row := regexOperationsUptoRow, standIns := [], harness := (true, "40894faff901b65b0b34db413771c260629a66f4b029ce98a033820a7eb2790d"), looks := false }, kinds := [], alts := [], laidByText := true, laidKinds := [.data], laidTests := true, laidLooks := .later }
def RegexOperationsUptoCardSaid : Prop := Claim7.holds Tryz.pinned (.plain (OpenSpec.upto regexOperationsSpec)) regexOperationsUptoCard

/-- THE SECOND FORM's CARD OF 'wordbooklaw07.RegexNormal'. -/
def regexNormalUptoCard : Claim7 := { stood := { row := regexNormalUptoRow, standIns := [], harness := (true, "40894faff901b65b0b34db413771c260629a66f4b029ce98a033820a7eb2790d"), looks := false }, kinds := [], alts := [], laidByText := true, laidKinds := [.data], laidTests := true, laidLooks := .later }
def RegexNormalUptoCardSaid : Prop := Claim7.holds Tryz.pinned (.plain (OpenSpec.upto regexNormalSpec)) regexNormalUptoCard

/-- THE SECOND FORM's CARD OF 'wordbooklaw07.RegexPatterns'. -/
def regexPatternsUptoCard : Claim7 := { stood := { row := regexPatternsUptoRow, standIns := [], harness := (true, "40894faff901b65b0b34db413771c260629a66f4b029ce98a033820a7eb2790d"), looks := false }, kinds := [], alts := [], laidByText := true, laidKinds := [.data], laidTests := true, laidLooks := .later }
def RegexPatternsUptoCardSaid : Prop := Claim7.holds Tryz.pinned (.plain (OpenSpec.upto regexPatternsSpec)) regexPatternsUptoCard
end Rows
end Go.Proofs.YtakcjlimbabbfaaGreatDoor
