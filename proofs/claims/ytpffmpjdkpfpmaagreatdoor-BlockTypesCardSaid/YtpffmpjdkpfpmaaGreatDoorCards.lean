/-
  DERIVED. GIVEN WITH THE SEED: THE CARDS: each row of YtpffmpjdkpfpmaaGreatDoorRows.lean that lists a variable, with what it lists TIED to the program's text (the seventh form; the later family's looks); each row that meets fmt, with fmt's text TOLD by the authors' own Lean function (tested against real Go, not proved from fmt's source: count such statements apart). THE CARD IS WHAT COUNTS. Prove the row's statement (the work); the ties are given (YtpffmpjdkpfpmaaGreatDoorTie.lean); close each card by the builder's one call (the guide's Derived/Test/ToyasCard.lean, 'card_holds'). Laid BY PROGRAM, IN A SANDBOX (cutbox-door.mjs). By AI agents, Wed Nov 11 2026. No macro, syntax, notation, axiom, sorry.
-/
import Derived.Test.YtpffmpjdkpfpmaaGreatDoorRows
import GoSem.ClaimSeven
namespace Go.Proofs.YtpffmpjdkpfpmaaGreatDoor
namespace Rows

/-- THE TIED CARD OF 'packsaddlelaw08.BlockBlocks'. -/
def blockBlocksCard : Claim7 := { stood := { row := blockBlocksRow, standIns := [], harness := (true, "96684950e8856e316666c2f12a39cdc5c269bf34a4ed310ccc20235e278cd366"), looks := true }, kinds := [], alts := [], laidByText := true, laidKinds := [.data, .data], laidTests := true, laidLooks := .later }
def BlockBlocksCardSaid : Prop := Claim7.holds Tryz.pinned (.plain (OpenSpec.ofChange blockBlocksSpec)) blockBlocksCard

/-- THE TIED CARD OF 'packsaddlelaw08.BlockExtras'. -/
def blockExtrasCard : Claim7 := { stood := { row := blockExtrasRow, standIns := [], harness := (true, "96684950e8856e316666c2f12a39cdc5c269bf34a4ed310ccc20235e278cd366"), looks := true }, kinds := [], alts := [], laidByText := true, laidKinds := [.data, .data], laidTests := true, laidLooks := .later }
def BlockExtrasCardSaid : Prop := Claim7.holds Tryz.pinned (.plain (OpenSpec.ofChange blockExtrasSpec)) blockExtrasCard

/-- THE TIED CARD OF 'packsaddlelaw08.BlockOf'. -/
def blockOfCard : Claim7 := { stood := { row := blockOfRow, standIns := [], harness := (true, "96684950e8856e316666c2f12a39cdc5c269bf34a4ed310ccc20235e278cd366"), looks := true }, kinds := [], alts := [], laidByText := true, laidKinds := [.data, .data], laidTests := true, laidLooks := .later }
def BlockOfCardSaid : Prop := Claim7.holds Tryz.pinned (.plain (OpenSpec.ofChange blockOfSpec)) blockOfCard

/-- THE TIED CARD OF 'packsaddlelaw08.BlockTypes'. -/
def blockTypesCard : Claim7 := { stood := { row := blockTypesRow, standIns := [], harness := (true, "96684950e8856e316666c2f12a39cdc5c269bf34a4ed310ccc20235e278cd366"), looks := true }, kinds := [], alts := [], laidByText := true, laidKinds := [.data, .data], laidTests := true, laidLooks := .later }
def BlockTypesCardSaid : Prop := Claim7.holds Tryz.pinned (.plain (OpenSpec.ofChange blockTypesSpec)) blockTypesCard

/-- THE TIED CARD OF 'packsaddlelaw08.BlockHolds'. -/
def blockHoldsCard : Claim7 := { stood := { row := blockHoldsRow, standIns := [], harness := (true, "96684950e8856e316666c2f12a39cdc5c269bf34a4ed310ccc20235e278cd366"), looks := true }, kinds := [], alts := [], laidByText := true, laidKinds := [.data, .data], laidTests := true, laidLooks := .later }
def BlockHoldsCardSaid : Prop := Claim7.holds Tryz.pinned (.plain (OpenSpec.ofChange blockHoldsSpec)) blockHoldsCard

/-- THE TIED CARD OF 'packsaddlelaw09.BundleBundles'. -/
def bundleBundlesCard : Claim7 := { stood := { row := bundleBundlesRow, standIns := [], harness := (true, "96684950e8856e316666c2f12a39cdc5c269bf34a4ed310ccc20235e278cd366"), looks := true }, kinds := [], alts := [], laidByText := true, laidKinds := [.data, .data], laidTests := true, laidLooks := .later }
def BundleBundlesCardSaid : Prop := Claim7.holds Tryz.pinned (.plain (OpenSpec.ofChange bundleBundlesSpec)) bundleBundlesCard

/-- THE TIED CARD OF 'packsaddlelaw09.BundleGoes'. -/
def bundleGoesCard : Claim7 := { stood := { row := bundleGoesRow, standIns := [], harness := (true, "96684950e8856e316666c2f12a39cdc5c269bf34a4ed310ccc20235e278cd366"), looks := true }, kinds := [], alts := [], laidByText := true, laidKinds := [.data, .data], laidTests := true, laidLooks := .later }
def BundleGoesCardSaid : Prop := Claim7.holds Tryz.pinned (.plain (OpenSpec.ofChange bundleGoesSpec)) bundleGoesCard

/-- THE TIED CARD OF 'packsaddlelaw09.BundleHolds'. -/
def bundleHoldsCard : Claim7 := { stood := { row := bundleHoldsRow, standIns := [], harness := (true, "96684950e8856e316666c2f12a39cdc5c269bf34a4ed310ccc20235e278cd366"), looks := true }, kinds := [], alts := [], laidByText := true, laidKinds := [.data, .data], laidTests := true, laidLooks := .later }
def BundleHoldsCardSaid : Prop := Claim7.holds Tryz.pinned (.plain (OpenSpec.ofChange bundleHoldsSpec)) bundleHoldsCard

/-- THE SECOND FORM's CARD OF 'packsaddlelaw08.BlockBlocks'. -/
def blockBlocksUptoCard : Claim7 := { stood := { row := blockBlocksUptoRow, standIns := [], harness := (true, "96684950e8856e316666c2f12a39cdc5c269bf34a4ed310ccc20235e278cd366"), looks := true }, kinds := [], alts := [], laidByText := true, laidKinds := [.data, .data], laidTests := true, laidLooks := .later }
def BlockBlocksUptoCardSaid : Prop := Claim7.holds Tryz.pinned (.plain (OpenSpec.upto blockBlocksSpec)) blockBlocksUptoCard

/-- THE SECOND FORM's CARD OF 'packsaddlelaw08.BlockExtras'. -/
def blockExtrasUptoCard : Claim7 := { stood := { row := blockExtrasUptoRow, standIns := [], harness := (true, "96684950e8856e316666c2f12a39cdc5c269bf34a4ed310ccc20235e278cd366"), looks := true }, kinds := [], alts := [], laidByText := true, laidKinds := [.data, .data], laidTests := true, laidLooks := .later }
def BlockExtrasUptoCardSaid : Prop := Claim7.holds Tryz.pinned (.plain (OpenSpec.upto blockExtrasSpec)) blockExtrasUptoCard

/-- THE SECOND FORM's CARD OF 'packsaddlelaw08.BlockOf'. -/
def blockOfUptoCard : Claim7 := { stood := { row := blockOfUptoRow, standIns := [], harness := (true, "96684950e8856e316666c2f12a39cdc5c269bf34a4ed310ccc20235e278cd366"), looks := true }, kinds := [], alts := [], laidByText := true, laidKinds := [.data, .data], laidTests := true, laidLooks := .later }
def BlockOfUptoCardSaid : Prop := Claim7.holds Tryz.pinned (.plain (OpenSpec.upto blockOfSpec)) blockOfUptoCard

/-- THE SECOND FORM's CARD OF 'packsaddlelaw08.BlockTypes'. -/
def blockTypesUptoCard : Claim7 := { stood := { row := blockTypesUptoRow, standIns := [], harness := (true, "96684950e8856e316666c2f12a39cdc5c269bf34a4ed310ccc20235e278cd366"), looks := true }, kinds := [], alts := [], laidByText := true, laidKinds := [.data, .data], laidTests := true, laidLooks := .later }
def BlockTypesUptoCardSaid : Prop := Claim7.holds Tryz.pinned (.plain (OpenSpec.upto blockTypesSpec)) blockTypesUptoCard

/-- THE SECOND FORM's CARD OF 'packsaddlelaw08.BlockHolds'. -/
def blockHoldsUptoCard : Claim7 := { stood := { row := blockHoldsUptoRow, standIns := [], harness := (true, "96684950e8856e316666c2f12a39cdc5c269bf34a4ed310ccc20235e278cd366"), looks := true }, kinds := [], alts := [], laidByText := true, laidKinds := [.data, .data], laidTests := true, laidLooks := .later }
def BlockHoldsUptoCardSaid : Prop := Claim7.holds Tryz.pinned (.plain (OpenSpec.upto blockHoldsSpec)) blockHoldsUptoCard

/-- THE SECOND FORM's CARD OF 'packsaddlelaw09.BundleBundles'. -/
def bundleBundlesUptoCard : Claim7 := { stood := { row := bundleBundlesUptoRow, standIns := [], harness := (true, "96684950e8856e316666c2f12a39cdc5c269bf34a4ed310ccc20235e278cd366"), looks := true }, kinds := [], alts := [], laidByText := true, laidKinds := [.data, .data], laidTests := true, laidLooks := .later }
def BundleBundlesUptoCardSaid : Prop := Claim7.holds Tryz.pinned (.plain (OpenSpec.upto bundleBundlesSpec)) bundleBundlesUptoCard

/-- THE SECOND FORM's CARD OF 'packsaddlelaw09.BundleGoes'. -/
def bundleGoesUptoCard : Claim7 := { stood := { row := bundleGoesUptoRow, standIns := [], harness := (true, "96684950e8856e316666c2f12a39cdc5c269bf34a4ed310ccc20235e278cd366"), looks := true }, kinds := [], alts := [], laidByText := true, laidKinds := [.data, .data], laidTests := true, laidLooks := .later }
def BundleGoesUptoCardSaid : Prop := Claim7.holds Tryz.pinned (.plain (OpenSpec.upto bundleGoesSpec)) bundleGoesUptoCard

/-- THE SECOND FORM's CARD OF 'packsaddlelaw09.BundleHolds'. -/
def bundleHoldsUptoCard : Claim7 := { stood := { row := bundleHoldsUptoRow, standIns := [], harness := (true, "96684950e8856e316666c2f12a39cdc5c269bf34a4ed310ccc20235e278cd366"), looks := true }, kinds := [], alts := [], laidByText := true, laidKinds := [.data, .data], laidTests := true, laidLooks := .later }
def BundleHoldsUptoCardSaid : Prop := Claim7.holds Tryz.pinned (.plain (OpenSpec.upto bundleHoldsSpec)) bundleHoldsUptoCard
end Rows
end Go.Proofs.YtpffmpjdkpfpmaaGreatDoor
