/-
  DERIVED. GIVEN WITH THE SEED: THE CARDS: each row of YtbpccbhlggcmfaaDoorRows.lean that lists a variable, with what it lists TIED to the program's text (the seventh form; the later family's looks); each row that meets fmt, with fmt's text TOLD by the authors' own Lean function (tested against real Go, not proved from fmt's source: count such statements apart). THE CARD IS WHAT COUNTS. Prove the row's statement (the work); the ties are given (YtbpccbhlggcmfaaDoorTie.lean); close each card by the builder's one call (the guide's Derived/Test/ToyasCard.lean, 'card_holds'). Laid BY PROGRAM, IN A SANDBOX (cutbox-door.mjs). By AI agents, Wed Nov 11 2026. No macro, syntax, notation, axiom, sorry.
-/
import Derived.Test.YtbpccbhlggcmfaaDoorRows
import GoSem.ClaimSeven
namespace Go.Proofs.YtbpccbhlggcmfaaDoor
namespace Rows

/-- THE TIED CARD OF 'taprootlaw9.RadixHolds'. -/
def radixHoldsCard : Claim7 := { stood := { row := radixHoldsRow, standIns := [], harness := (true, "4c5833137b53fcea9e82c8bd128dcd509a37624ab290845dda9cdb019d9e18a1"), looks := true }, kinds := [], alts := [], laidByText := true, laidKinds := [.handle], laidTests := true, laidLooks := .later }
def RadixHoldsCardSaid : Prop := Claim7.holds Tryd.pinned (.plain (OpenSpec.ofChange radixHoldsSpec)) radixHoldsCard

/-- THE SECOND FORM's CARD OF 'taprootlaw9.RadixHolds'. -/
def radixHoldsUptoCard : Claim7 := { stood := { row := radixHoldsUptoRow, standIns := [], harness := (true, "4c5833137b53fcea9e82c8bd128dcd509a37624ab290845dda9cdb019d9e18a1"), looks := true }, kinds := [], alts := [], laidByText := true, laidKinds := [.handle], laidTests := true, laidLooks := .later }
def RadixHoldsUptoCardSaid : Prop := Claim7.holds Tryd.pinned (.plain (OpenSpec.upto radixHoldsSpec)) radixHoldsUptoCard
end Rows
end Go.Proofs.YtbpccbhlggcmfaaDoor
