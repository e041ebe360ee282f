/-
  DERIVED. GIVEN WITH THE SEED: THE CARDS: each row of YtiahakbkagipkaaGreatDoorRows.lean that lists a variable, with what it lists TIED to the program's text (the seventh form; the later family's looks); each row that meets fmt, with fmt's text TOLD by the authors' own Lean function (tested against real Go, not proved from fmt's source: count such statements apart). THE CARD IS WHAT COUNTS. Prove the row's statement (the work); the ties are given (YtiahakbkagipkaaGreatDoorTie.lean); close each card by the builder's one call (the guide's Derived/Test/ToyasCard.lean, 'card_holds'). Laid BY PROGRAM, IN A SANDBOX (cutbox-door.mjs). By AI agents, Wed Nov 11 2026. No macro, syntax, notation, axiom, sorry.
-/
import Derived.Test.YtiahakbkagipkaaGreatDoorRows
import GoSem.ClaimSeven
namespace Go.Proofs.YtiahakbkagipkaaGreatDoor
namespace Rows

/-- THE TIED CARD OF 'packsaddlelaw08.BlockBlocks'. -/
def blockBlocksCard : Claim7 := { stood := { row := blockBlocksRow, standIns := [], harness := (true, "b56ccac4e07e722d07784cff788650582ab9b689b6a247532c7bb00a6e3553f6"), looks := true }, kinds := [], alts := [], laidByText := true, laidKinds := [.data, .data], laidTests := true, laidLooks := .later }
def BlockBlocksCardSaid : Prop := Claim7.holds Tryz.pinned (.plain (OpenSpec.ofChange blockBlocksSpec)) blockBlocksCard

/-- THE TIED CARD OF 'packsaddlelaw08.BlockExtras'. -/
def blockExtrasCard : Claim7 := { stood := { row := blockExtrasRow, standIns := [], harness := (true, "b56ccac4e07e722d07784cff788650582ab9b689b6a247532c7bb00a6e3553f6"), looks := true }, kinds := [], alts := [], laidByText := true, laidKinds := [.data, .data], laidTests := true, laidLooks := .later }
def BlockExtrasCardSaid : Prop := Claim7.holds Tryz.pinned (.plain (OpenSpec.ofChange blockExtrasSpec)) blockExtrasCard

/-- THE TIED CARD OF 'packsaddlelaw08.BlockOf'. -/
def blockOfCard : Claim7 := { stood := { row := blockOfRow, standIns := [], harness := (true, "b56ccac4e07e722d07784cff788650582ab9b689b6a247532c7bb00a6e3553f6"), looks := true }, kinds := [], alts := [], laidByText := true, laidKinds := [.data, .data], laidTests := true, laidLooks := .later }
def BlockOfCardSaid : Prop := Claim7.holds Tryz.pinned (.plain (OpenSpec.ofChange blockOfSpec)) blockOfCard

/-- THE SECOND FORM's CARD OF 'packsaddlelaw08.BlockBlocks'. -/
def blockBlocksUptoCard : Claim7 := { stood := { row := blockBlocksUptoRow, standIns := [], harness := (true, "b56ccac4e07e722d07784cff788650582ab9b689b6a247532c7bb00a6e3553f6"), looks := true }, kinds := [], alts := [], laidByText := true, laidKinds := [.data, .data], laidTests := true, laidLooks := .later }
def BlockBlocksUptoCardSaid : Prop := Claim7.holds Tryz.pinned (.plain (OpenSpec.upto blockBlocksSpec)) blockBlocksUptoCard

/-- THE SECOND FORM's CARD OF 'packsaddlelaw08.BlockExtras'. -/
def blockExtrasUptoCard : Claim7 := { stood := { row := blockExtrasUptoRow, standIns := [], harness := (true, "b56ccac4e07e722d07784cff788650582ab9b689b6a247532c7bb00a6e3553f6"), looks := true }, kinds := [], alts := [], laidByText := true, laidKinds := [.data, .data], laidTests := true, laidLooks := .later }
def BlockExtrasUptoCardSaid : Prop := Claim7.holds Tryz.pinned (.plain (OpenSpec.upto blockExtrasSpec)) blockExtrasUptoCard

/-- THE SECOND FORM's CARD OF 'packsaddlelaw08.BlockOf'. -/
def blockOfUptoCard : Claim7 := { stood := { row := blockOfUptoRow, standIns := [], harness := (true, "b56ccac4e07e722d07784cff788650582ab9b689b6a247532c7bb00a6e3553f6"), looks := true }, kinds := [], alts := [], laidByText := true, laidKinds := [.data, .data], laidTests := true, laidLooks := .later }
def BlockOfUptoCardSaid : Prop := Claim7.holds Tryz.pinned (.plain (OpenSpec.upto blockOfSpec)) blockOfUptoCard
end Rows
end Go.Proofs.YtiahakbkagipkaaGreatDoor
