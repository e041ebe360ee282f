/-
  DERIVED. GIVEN WITH THE SEED: THE CARDS: each row of YtncemmhbbkpieaaDoorRows.lean that lists a variable, with what it lists TIED to the program's text (the seventh form; the later family's looks); each row that meets fmt, with fmt's text TOLD by the authors' own Lean function (tested against real Go, not proved from fmt's source: count such statements apart). THE CARD IS WHAT COUNTS. Prove the row's statement (the work); the ties are given (YtncemmhbbkpieaaDoorTie.lean); close each card by the builder's one call (the guide's Derived/Test/ToyasCard.lean, 'card_holds'). Laid BY PROGRAM, IN A SANDBOX (cutbox-door.mjs). By AI agents, Wed Nov 11 2026. No macro, syntax, notation, axiom, sorry.
-/
import Derived.Test.YtncemmhbbkpieaaDoorRows
import GoSem.ClaimSeven
namespace Go.Proofs.YtncemmhbbkpieaaDoor
namespace Rows

/-- THE TIED CARD OF 'packsaddlelaw03.CborBytes'. -/
def cborBytesCard : Claim7 := { stood := { row := cborBytesRow, standIns := [], harness := (true, "17f7250614766f341f0c06649f935732610d5ebe8f09ea5b295707aaf3998a91"), looks := true }, kinds := [], alts := [], laidByText := true, laidKinds := [.data, .data], laidTests := true, laidLooks := .later }
def CborBytesCardSaid : Prop := Claim7.holds Tryd.pinned (.plain (OpenSpec.ofChange cborBytesSpec)) cborBytesCard

/-- THE TIED CARD OF 'packsaddlelaw03.CborSame'. -/
def cborSameCard : Claim7 := { stood := { row := cborSameRow, standIns := [], harness := (true, "17f7250614766f341f0c06649f935732610d5ebe8f09ea5b295707aaf3998a91"), looks := true }, kinds := [], alts := [], laidByText := true, laidKinds := [.data, .data], laidTests := true, laidLooks := .later }
def CborSameCardSaid : Prop := Claim7.holds Tryd.pinned (.plain (OpenSpec.ofChange cborSameSpec)) cborSameCard

/-- THE SECOND FORM's CARD OF 'packsaddlelaw03.CborBytes'. -/
def cborBytesUptoCard : Claim7 := { stood := { row := cborBytesUptoRow, standIns := [], harness := (true, "17f7250614766f341f0c06649f935732610d5ebe8f09ea5b295707aaf3998a91"), looks := true }, kinds := [], alts := [], laidByText := true, laidKinds := [.data, .data], laidTests := true, laidLooks := .later }
def CborBytesUptoCardSaid : Prop := Claim7.holds Tryd.pinned (.plain (OpenSpec.upto cborBytesSpec)) cborBytesUptoCard

/-- THE SECOND FORM's CARD OF 'packsaddlelaw03.CborSame'. -/
def cborSameUptoCard : Claim7 := { stood := { row := cborSameUptoRow, standIns := [], harness := (true, "17f7250614766f341f0c06649f935732610d5ebe8f09ea5b295707aaf3998a91"), looks := true }, kinds := [], alts := [], laidByText := true, laidKinds := [.data, .data], laidTests := true, laidLooks := .later }
def CborSameUptoCardSaid : Prop := Claim7.holds Tryd.pinned (.plain (OpenSpec.upto cborSameSpec)) cborSameUptoCard
end Rows
end Go.Proofs.YtncemmhbbkpieaaDoor
