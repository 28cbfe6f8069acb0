/-
  DERIVED. GIVEN WITH THE SEED: THE CARDS: each row of YtfneadlknieppaaGreatDoorRows.lean that lists a variable, with what it lists TIED to the program's text (the seventh form; the later family's looks); each row that meets fmt, with fmt's text TOLD by the authors' own Lean function (tested against real Go, not proved from fmt's source: count such statements apart). THE CARD IS WHAT COUNTS. Prove the row's statement (the work); the ties are given (YtfneadlknieppaaGreatDoorTie.lean); close each card by the builder's one call (the guide's Derived/Test/ToyasCard.lean, 'card_holds'). Laid BY PROGRAM, IN A SANDBOX (cutbox-door.mjs). By AI agents, Wed Nov 11 2026. No macro, syntax, notation, axiom, sorry.
-/
import Derived.Test.YtfneadlknieppaaGreatDoorRows
import GoSem.ClaimSeven
namespace Go.Proofs.YtfneadlknieppaaGreatDoor
namespace Rows

/-- THE TIED CARD OF 'taprootlaw8.RootPlays'. -/
def rootPlaysCard : Claim7 := { stood := { row := rootPlaysRow, standIns := [], harness := (true, "b6c1b8bda9a4e466acacd21977a95a2f69effba98d6ebec46400e1fce06d5296"), looks := true }, kinds := [], alts := [], laidByText := true, laidKinds := [.handle], laidTests := true, laidLooks := .later }
def RootPlaysCardSaid : Prop := Claim7.holds Tryz.pinned (.plain (OpenSpec.ofChange rootPlaysSpec)) rootPlaysCard

/-- THE TIED CARD OF 'taprootlaw8.RootLeft'. -/
def rootLeftCard : Claim7 := { stood := { row := rootLeftRow, standIns := [], harness := (true, "b6c1b8bda9a4e466acacd21977a95a2f69effba98d6ebec46400e1fce06d5296"), looks := true }, kinds := [], alts := [], laidByText := true, laidKinds := [.handle], laidTests := true, laidLooks := .later }
def RootLeftCardSaid : Prop := Claim7.holds Tryz.pinned (.plain (OpenSpec.ofChange rootLeftSpec)) rootLeftCard

/-- THE SECOND FORM's CARD OF 'taprootlaw8.RootPlays'. -/
def rootPlaysUptoCard : Claim7 := { stood := { row := rootPlaysUptoRow, standIns := [], harness := (true, "b6c1b8bda9a4e466acacd21977a95a2f69effba98d6ebec46400e1fce06d5296"), looks := true }, kinds := [], alts := [], laidByText := true, laidKinds := [.handle], laidTests := true, laidLooks := .later }
def RootPlaysUptoCardSaid : Prop := Claim7.holds Tryz.pinned (.plain (OpenSpec.upto rootPlaysSpec)) rootPlaysUptoCard

/-- THE SECOND FORM's CARD OF 'taprootlaw8.RootLeft'. -/
def rootLeftUptoCard : Claim7 := { stood := { row := rootLeftUptoRow, standIns := [], harness := (true, "b6c1b8bda9a4e466acacd21977a95a2f69effba98d6ebec46400e1fce06d5296"), looks := true }, kinds := [], alts := [], laidByText := true, laidKinds := [.handle], laidTests := true, laidLooks := .later }
def RootLeftUptoCardSaid : Prop := Claim7.holds Tryz.pinned (.plain (OpenSpec.upto rootLeftSpec)) rootLeftUptoCard
end Rows
end Go.Proofs.YtfneadlknieppaaGreatDoor
