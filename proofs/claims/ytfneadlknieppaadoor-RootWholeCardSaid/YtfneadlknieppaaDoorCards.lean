/-
  DERIVED. GIVEN WITH THE SEED: THE CARDS: each row of YtfneadlknieppaaDoorRows.lean that lists a variable, with what it lists TIED to the program's text (the seventh form; the later family's looks); each row that meets fmt, with fmt's text TOLD by the authors' own Lean function (tested against real Go, not proved from fmt's source: count such statements apart). THE CARD IS WHAT COUNTS. Prove the row's statement (the work); the ties are given (YtfneadlknieppaaDoorTie.lean); close each card by the builder's one call (the guide's Derived/Test/ToyasCard.lean, 'card_holds'). Laid BY PROGRAM, IN A SANDBOX (cutbox-door.mjs). By AI agents, Wed Nov 11 2026. No macro, syntax, notation, axiom, sorry.
-/
import Derived.Test.YtfneadlknieppaaDoorRows
import GoSem.ClaimSeven
namespace Go.Proofs.YtfneadlknieppaaDoor
namespace Rows

/-- THE TIED CARD OF 'taprootlaw8.RootKnown'. -/
def rootKnownCard : Claim7 := { stood := { row := rootKnownRow, standIns := [], harness := (true, "9863984e98e89e5c49a529d4fb43556ca10d57f0cb61f2b6ab27da9905dadaec"), looks := true }, kinds := [], alts := [], laidByText := true, laidKinds := [.handle], laidTests := true, laidLooks := .later }
def RootKnownCardSaid : Prop := Claim7.holds Tryd.pinned (.plain (OpenSpec.ofChange rootKnownSpec)) rootKnownCard

/-- THE TIED CARD OF 'taprootlaw8.RootCodes'. -/
def rootCodesCard : Claim7 := { stood := { row := rootCodesRow, standIns := [], harness := (true, "9863984e98e89e5c49a529d4fb43556ca10d57f0cb61f2b6ab27da9905dadaec"), looks := true }, kinds := [], alts := [], laidByText := true, laidKinds := [.handle], laidTests := true, laidLooks := .later }
def RootCodesCardSaid : Prop := Claim7.holds Tryd.pinned (.plain (OpenSpec.ofChange rootCodesSpec)) rootCodesCard

/-- THE TIED CARD OF 'taprootlaw8.RootWhole'. -/
def rootWholeCard : Claim7 := { stood := { row := rootWholeRow, standIns := [], harness := (true, "9863984e98e89e5c49a529d4fb43556ca10d57f0cb61f2b6ab27da9905dadaec"), looks := true }, kinds := [], alts := [], laidByText := true, laidKinds := [.handle], laidTests := true, laidLooks := .later }
def RootWholeCardSaid : Prop := Claim7.holds Tryd.pinned (.plain (OpenSpec.ofChange rootWholeSpec)) rootWholeCard

/-- THE SECOND FORM's CARD OF 'taprootlaw8.RootKnown'. -/
def rootKnownUptoCard : Claim7 := { stood := { row := rootKnownUptoRow, standIns := [], harness := (true, "9863984e98e89e5c49a529d4fb43556ca10d57f0cb61f2b6ab27da9905dadaec"), looks := true }, kinds := [], alts := [], laidByText := true, laidKinds := [.handle], laidTests := true, laidLooks := .later }
def RootKnownUptoCardSaid : Prop := Claim7.holds Tryd.pinned (.plain (OpenSpec.upto rootKnownSpec)) rootKnownUptoCard

/-- THE SECOND FORM's CARD OF 'taprootlaw8.RootCodes'. -/
def rootCodesUptoCard : Claim7 := { stood := { row := rootCodesUptoRow, standIns := [], harness := (true, "9863984e98e89e5c49a529d4fb43556ca10d57f0cb61f2b6ab27da9905dadaec"), looks := true }, kinds := [], alts := [], laidByText := true, laidKinds := [.handle], laidTests := true, laidLooks := .later }
def RootCodesUptoCardSaid : Prop := Claim7.holds Tryd.pinned (.plain (OpenSpec.upto rootCodesSpec)) rootCodesUptoCard

/-- THE SECOND FORM's CARD OF 'taprootlaw8.RootWhole'. -/
def rootWholeUptoCard : Claim7 := { stood := { row := rootWholeUptoRow, standIns := [], harness := (true, "9863984e98e89e5c49a529d4fb43556ca10d57f0cb61f2b6ab27da9905dadaec"), looks := true }, kinds := [], alts := [], laidByText := true, laidKinds := [.handle], laidTests := true, laidLooks := .later }
def RootWholeUptoCardSaid : Prop := Claim7.holds Tryd.pinned (.plain (OpenSpec.upto rootWholeSpec)) rootWholeUptoCard
end Rows
end Go.Proofs.YtfneadlknieppaaDoor
