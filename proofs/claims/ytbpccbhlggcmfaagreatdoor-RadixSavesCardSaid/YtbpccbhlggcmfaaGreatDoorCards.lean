/-
  DERIVED. GIVEN WITH THE SEED: THE CARDS: each row of YtbpccbhlggcmfaaGreatDoorRows.lean that lists a variable, with what it lists TIED to the program's text (the seventh form; the later family's looks); each row that meets fmt, with fmt's text TOLD by the authors' own Lean function (tested against real Go, not proved from fmt's source: count such statements apart). THE CARD IS WHAT COUNTS. Prove the row's statement (the work); the ties are given (YtbpccbhlggcmfaaGreatDoorTie.lean); close each card by the builder's one call (the guide's Derived/Test/ToyasCard.lean, 'card_holds'). Laid BY PROGRAM, IN A SANDBOX (cutbox-door.mjs). By AI agents, Wed Nov 11 2026. No macro, syntax, notation, axiom, sorry.
-/
import Derived.Test.YtbpccbhlggcmfaaGreatDoorRows
import GoSem.ClaimSeven
namespace Go.Proofs.YtbpccbhlggcmfaaGreatDoor
namespace Rows

/-- THE TIED CARD OF 'taprootlaw9.RadixKnown'. -/
def radixKnownCard : Claim7 := { stood := { row := radixKnownRow, standIns := [], harness := (true, "6796a600c38e30e90f0f631ed2292b80eee670a7c35bb2058c388ac81d4d12ae"), looks := true }, kinds := [], alts := [], laidByText := true, laidKinds := [.handle], laidTests := true, laidLooks := .later }
def RadixKnownCardSaid : Prop := Claim7.holds Tryz.pinned (.plain (OpenSpec.ofChange radixKnownSpec)) radixKnownCard

/-- THE TIED CARD OF 'taprootlaw9.RadixSaves'. -/
def radixSavesCard : Claim7 := { stood := { row := radixSavesRow, standIns := [], harness := (true, "6796a600c38e30e90f0f631ed2292b80eee670a7c35bb2058c388ac81d4d12ae"), looks := true }, kinds := [], alts := [], laidByText := true, laidKinds := [.handle], laidTests := true, laidLooks := .later }
def RadixSavesCardSaid : Prop := Claim7.holds Tryz.pinned (.plain (OpenSpec.ofChange radixSavesSpec)) radixSavesCard

/-- THE TIED CARD OF 'taprootlaw9.RadixOrders'. -/
def radixOrdersCard : Claim7 := { stood := { row := radixOrdersRow, standIns := [], harness := (true, "6796a600c38e30e90f0f631ed2292b80eee670a7c35bb2058c388ac81d4d12ae"), looks := true }, kinds := [], alts := [], laidByText := true, laidKinds := [.handle], laidTests := true, laidLooks := .later }
def RadixOrdersCardSaid : Prop := Claim7.holds Tryz.pinned (.plain (OpenSpec.ofChange radixOrdersSpec)) radixOrdersCard

/-- THE SECOND FORM's CARD OF 'taprootlaw9.RadixKnown'. -/
def radixKnownUptoCard : Claim7 := { stood := { row := radixKnownUptoRow, standIns := [], harness := (true, "6796a600c38e30e90f0f631ed2292b80eee670a7c35bb2058c388ac81d4d12ae"), looks := true }, kinds := [], alts := [], laidByText := true, laidKinds := [.handle], laidTests := true, laidLooks := .later }
def RadixKnownUptoCardSaid : Prop := Claim7.holds Tryz.pinned (.plain (OpenSpec.upto radixKnownSpec)) radixKnownUptoCard

/-- THE SECOND FORM's CARD OF 'taprootlaw9.RadixSaves'. -/
def radixSavesUptoCard : Claim7 := { stood := { row := radixSavesUptoRow, standIns := [], harness := (true, "6796a600c38e30e90f0f631ed2292b80eee670a7c35bb2058c388ac81d4d12ae"), looks := true }, kinds := [], alts := [], laidByText := true, laidKinds := [.handle], laidTests := true, laidLooks := .later }
def RadixSavesUptoCardSaid : Prop := Claim7.holds Tryz.pinned (.plain (OpenSpec.upto radixSavesSpec)) radixSavesUptoCard

/-- THE SECOND FORM's CARD OF 'taprootlaw9.RadixOrders'. -/
def radixOrdersUptoCard : Claim7 := { stood := { row := radixOrdersUptoRow, standIns := [], harness := (true, "6796a600c38e30e90f0f631ed2292b80eee670a7c35bb2058c388ac81d4d12ae"), looks := true }, kinds := [], alts := [], laidByText := true, laidKinds := [.handle], laidTests := true, laidLooks := .later }
def RadixOrdersUptoCardSaid : Prop := Claim7.holds Tryz.pinned (.plain (OpenSpec.upto radixOrdersSpec)) radixOrdersUptoCard
end Rows
end Go.Proofs.YtbpccbhlggcmfaaGreatDoor
