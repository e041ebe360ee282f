/-
  DERIVED. GIVEN WITH THE SEED: THE CARDS: each row of YtkbnglcpcehaiaaDoorRows.lean that lists a variable, with what it lists TIED to the program's text (the seventh form; the later family's looks); each row that meets fmt, with fmt's text TOLD by the authors' own Lean function (tested against real Go, not proved from fmt's source: count such statements apart). THE CARD IS WHAT COUNTS. Prove the row's statement (the work); the ties are given (YtkbnglcpcehaiaaDoorTie.lean); close each card by the builder's one call (the guide's Derived/Test/ToyasCard.lean, 'card_holds'). Laid BY PROGRAM, IN A SANDBOX (cutbox-door.mjs). By AI agents, Wed Nov 11 2026. No macro, syntax, notation, axiom, sorry.
-/
import Derived.Test.YtkbnglcpcehaiaaDoorRows
import GoSem.ClaimSeven
namespace Go.Proofs.YtkbnglcpcehaiaaDoor
namespace Rows

/-- THE TIED CARD OF 'packsaddlelaw07.PathWith'. -/
def pathWithCard : Claim7 := { stood := { row := pathWithRow, standIns := [], harness := (true, "b2372af0ca08ac2035c4f5fc4da24c8de8fab3ec19a21bb8d600283df4ee980e"), looks := false }, kinds := [], alts := [], laidByText := true, laidKinds := [.data, .data], laidTests := true, laidLooks := .later }
def PathWithCardSaid : Prop := Claim7.holds Tryd.pinned (.plain (OpenSpec.ofChange pathWithSpec)) pathWithCard

/-- THE TIED CARD OF 'packsaddlelaw07.PathItems'. -/
def pathItemsCard : Claim7 := { stood := { row := pathItemsRow, standIns := [], harness := (true, "b2372af0ca08ac2035c4f5fc4da24c8de8fab3ec19a21bb8d600283df4ee980e"), looks := false }, kinds := [], alts := [], laidByText := true, laidKinds := [.data, .data], laidTests := true, laidLooks := .later }
def PathItemsCardSaid : Prop := Claim7.holds Tryd.pinned (.plain (OpenSpec.ofChange pathItemsSpec)) pathItemsCard

/-- THE TIED CARD OF 'packsaddlelaw07.PathReads'. -/
def pathReadsCard : Claim7 := { stood := { row := pathReadsRow, standIns := [], harness := (true, "b2372af0ca08ac2035c4f5fc4da24c8de8fab3ec19a21bb8d600283df4ee980e"), looks := false }, kinds := [], alts := [], laidByText := true, laidKinds := [.data, .data], laidTests := true, laidLooks := .later }
def PathReadsCardSaid : Prop := Claim7.holds Tryd.pinned (.plain (OpenSpec.ofChange pathReadsSpec)) pathReadsCard

/-- THE TIED CARD OF 'packsaddlelaw07.PathGates'. -/
def pathGatesCard : Claim7 := { stood := { row := pathGatesRow, standIns := [], harness := (true, "b2372af0ca08ac2035c4f5fc4da24c8de8fab3ec19a21bb8d600283df4ee980e"), looks := false }, kinds := [], alts := [], laidByText := true, laidKinds := [.data, .data], laidTests := true, laidLooks := .later }
def PathGatesCardSaid : Prop := Claim7.holds Tryd.pinned (.plain (OpenSpec.ofChange pathGatesSpec)) pathGatesCard

/-- THE TIED CARD OF 'packsaddlelaw07.PathHolds'. -/
def pathHoldsCard : Claim7 := { stood := { row := pathHoldsRow, standIns := [], harness := (true, "b2372af0ca08ac2035c4f5fc4da24c8de8fab3ec19a21bb8d600283df4ee980e"), looks := false }, kinds := [], alts := [], laidByText := true, laidKinds := [.data, .data], laidTests := true, laidLooks := .later }
def PathHoldsCardSaid : Prop := Claim7.holds Tryd.pinned (.plain (OpenSpec.ofChange pathHoldsSpec)) pathHoldsCard

/-- THE SECOND FORM's CARD OF 'packsaddlelaw07.PathWith'. -/
def pathWithUptoCard : Claim7 := { stood := { row := pathWithUptoRow, standIns := [], harness := (true, "b2372af0ca08ac2035c4f5fc4da24c8de8fab3ec19a21bb8d600283df4ee980e"), looks := false }, kinds := [], alts := [], laidByText := true, laidKinds := [.data, .data], laidTests := true, laidLooks := .later }
def PathWithUptoCardSaid : Prop := Claim7.holds Tryd.pinned (.plain (OpenSpec.upto pathWithSpec)) pathWithUptoCard

/-- THE SECOND FORM's CARD OF 'packsaddlelaw07.PathItems'. -/
def pathItemsUptoCard : Claim7 := { stood := { row := pathItemsUptoRow, standIns := [], harness := (true, "b2372af0ca08ac2035c4f5fc4da24c8de8fab3ec19a21bb8d600283df4ee980e"), looks := false }, kinds := [], alts := [], laidByText := true, laidKinds := [.data, .data], laidTests := true, laidLooks := .later }
def PathItemsUptoCardSaid : Prop := Claim7.holds Tryd.pinned (.plain (OpenSpec.upto pathItemsSpec)) pathItemsUptoCard

/-- THE SECOND FORM's CARD OF 'packsaddlelaw07.PathReads'. -/
def pathReadsUptoCard : Claim7 := { stood := { row := pathReadsUptoRow, standIns := [], harness := (true, "b2372af0ca08ac2035c4f5fc4da24c8de8fab3ec19a21bb8d600283df4ee980e"), looks := false }, kinds := [], alts := [], laidByText := true, laidKinds := [.data, .data], laidTests := true, laidLooks := .later }
def PathReadsUptoCardSaid : Prop := Claim7.holds Tryd.pinned (.plain (OpenSpec.upto pathReadsSpec)) pathReadsUptoCard

/-- THE SECOND FORM's CARD OF 'packsaddlelaw07.PathGates'. -/
def pathGatesUptoCard : Claim7 := { stood := { row := pathGatesUptoRow, standIns := [], harness := (true, "b2372af0ca08ac2035c4f5fc4da24c8de8fab3ec19a21bb8d600283df4ee980e"), looks := false }, kinds := [], alts := [], laidByText := true, laidKinds := [.data, .data], laidTests := true, laidLooks := .later }
def PathGatesUptoCardSaid : Prop := Claim7.holds Tryd.pinned (.plain (OpenSpec.upto pathGatesSpec)) pathGatesUptoCard

/-- THE SECOND FORM's CARD OF 'packsaddlelaw07.PathHolds'. -/
def pathHoldsUptoCard : Claim7 := { stood := { row := pathHoldsUptoRow, standIns := [], harness := (true, "b2372af0ca08ac2035c4f5fc4da24c8de8fab3ec19a21bb8d600283df4ee980e"), looks := false }, kinds := [], alts := [], laidByText := true, laidKinds := [.data, .data], laidTests := true, laidLooks := .later }
def PathHoldsUptoCardSaid : Prop := Claim7.holds Tryd.pinned (.plain (OpenSpec.upto pathHoldsSpec)) pathHoldsUptoCard
end Rows
end Go.Proofs.YtkbnglcpcehaiaaDoor
