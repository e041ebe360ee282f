/-
  DERIVED. GIVEN WITH THE SEED: THE CARDS: each row of YteldifnkeekafaaGreatDoorRows.lean that lists a variable, with what it lists TIED to the program's text (the seventh form; the later family's looks); each row that meets fmt, with fmt's text TOLD by the authors' own Lean function (tested against real Go, not proved from fmt's source: count such statements apart). THE CARD IS WHAT COUNTS. Prove the row's statement (the work); the ties are given (YteldifnkeekafaaGreatDoorTie.lean); close each card by the builder's one call (the guide's Derived/Test/ToyasCard.lean, 'card_holds'). Laid BY PROGRAM, IN A SANDBOX (cutbox-door.mjs). By AI agents, Wed Nov 11 2026. No macro, syntax, notation, axiom, sorry.
-/
import Derived.Test.YteldifnkeekafaaGreatDoorRows
import GoSem.ClaimSeven
namespace Go.Proofs.YteldifnkeekafaaGreatDoor
namespace Rows

/-- THE TIED CARD OF 'packsaddlelaw10.AdminBytes'. -/
def adminBytesCard : Claim7 := { stood := { row := adminBytesRow, standIns := [], harness := (true, "d627e49e4a44726040c061eab41423f3624375f2dd04e03824e9798e35bca387"), looks := true }, kinds := [], alts := [], laidByText := true, laidKinds := [.data, .data], laidTests := true, laidLooks := .later }
def AdminBytesCardSaid : Prop := Claim7.holds Tryz.pinned (.plain (OpenSpec.ofChange adminBytesSpec)) adminBytesCard

/-- THE TIED CARD OF 'packsaddlelaw10.AdminItems'. -/
def adminItemsCard : Claim7 := { stood := { row := adminItemsRow, standIns := [], harness := (true, "d627e49e4a44726040c061eab41423f3624375f2dd04e03824e9798e35bca387"), looks := true }, kinds := [], alts := [], laidByText := true, laidKinds := [.data, .data], laidTests := true, laidLooks := .later }
def AdminItemsCardSaid : Prop := Claim7.holds Tryz.pinned (.plain (OpenSpec.ofChange adminItemsSpec)) adminItemsCard

/-- THE TIED CARD OF 'packsaddlelaw10.AdminHolds'. -/
def adminHoldsCard : Claim7 := { stood := { row := adminHoldsRow, standIns := [], harness := (true, "d627e49e4a44726040c061eab41423f3624375f2dd04e03824e9798e35bca387"), looks := true }, kinds := [], alts := [], laidByText := true, laidKinds := [.data, .data], laidTests := true, laidLooks := .later }
def AdminHoldsCardSaid : Prop := Claim7.holds Tryz.pinned (.plain (OpenSpec.ofChange adminHoldsSpec)) adminHoldsCard

/-- THE SECOND FORM's CARD OF 'packsaddlelaw10.AdminBytes'. -/
def adminBytesUptoCard : Claim7 := { stood := { row := adminBytesUptoRow, standIns := [], harness := (true, "d627e49e4a44726040c061eab41423f3624375f2dd04e03824e9798e35bca387"), looks := true }, kinds := [], alts := [], laidByText := true, laidKinds := [.data, .data], laidTests := true, laidLooks := .later }
def AdminBytesUptoCardSaid : Prop := Claim7.holds Tryz.pinned (.plain (OpenSpec.upto adminBytesSpec)) adminBytesUptoCard

/-- THE SECOND FORM's CARD OF 'packsaddlelaw10.AdminItems'. -/
def adminItemsUptoCard : Claim7 := { stood := { row := adminItemsUptoRow, standIns := [], harness := (true, "d627e49e4a44726040c061eab41423f3624375f2dd04e03824e9798e35bca387"), looks := true }, kinds := [], alts := [], laidByText := true, laidKinds := [.data, .data], laidTests := true, laidLooks := .later }
def AdminItemsUptoCardSaid : Prop := Claim7.holds Tryz.pinned (.plain (OpenSpec.upto adminItemsSpec)) adminItemsUptoCard

/-- THE SECOND FORM's CARD OF 'packsaddlelaw10.AdminHolds'. -/
def adminHoldsUptoCard : Claim7 := { stood := { row := adminHoldsUptoRow, standIns := [], harness := (true, "d627e49e4a44726040c061eab41423f3624375f2dd04e03824e9798e35bca387"), looks := true }, kinds := [], alts := [], laidByText := true, laidKinds := [.data, .data], laidTests := true, laidLooks := .later }
def AdminHoldsUptoCardSaid : Prop := Claim7.holds Tryz.pinned (.plain (OpenSpec.upto adminHoldsSpec)) adminHoldsUptoCard
end Rows
end Go.Proofs.YteldifnkeekafaaGreatDoor
