/-
  DERIVED. GIVEN WITH THE SEED: THE CARDS: each row of YthfndphngeaihaaDoorRows.lean that lists a variable, with what it lists TIED to the program's text (the seventh form; the later family's looks); each row that meets fmt, with fmt's text TOLD by the authors' own Lean function (tested against real Go, not proved from fmt's source: count such statements apart). THE CARD IS WHAT COUNTS. Prove the row's statement (the work); the ties are given (YthfndphngeaihaaDoorTie.lean); close each card by the builder's one call (the guide's Derived/Test/ToyasCard.lean, 'card_holds'). Laid BY PROGRAM, IN A SANDBOX (cutbox-door.mjs). By AI agents, Wed Nov 11 2026. No macro, syntax, notation, axiom, sorry.
-/
import Derived.Test.YthfndphngeaihaaDoorRows
import GoSem.ClaimSeven
namespace Go.Proofs.YthfndphngeaihaaDoor
namespace Rows

/-- THE TIED CARD OF 'packsaddlelaw14.RankHolds'. -/
def rankHoldsCard : Claim7 := { stood := { row := rankHoldsRow, standIns := [], harness := (true, "7ce63741de2b2865bd9ef8c785f4edc13d7eea6c099e39b1cb02c96aa15acc03"), looks := true }, kinds := [], alts := [], laidByText := true, laidKinds := [.data], laidTests := true, laidLooks := .later }
def RankHoldsCardSaid : Prop := Claim7.holds Tryd.pinned (.plain (OpenSpec.ofChange rankHoldsSpec)) rankHoldsCard

/-- THE SECOND FORM's CARD OF 'packsaddlelaw14.RankHolds'. -/
def rankHoldsUptoCard : Claim7 := { stood := { row := rankHoldsUptoRow, standIns := [], harness := (true, "7ce63741de2b2865bd9ef8c785f4edc13d7eea6c099e39b1cb02c96aa15acc03"), looks := true }, kinds := [], alts := [], laidByText := true, laidKinds := [.data], laidTests := true, laidLooks := .later }
def RankHoldsUptoCardSaid : Prop := Claim7.holds Tryd.pinned (.plain (OpenSpec.upto rankHoldsSpec)) rankHoldsUptoCard
end Rows
end Go.Proofs.YthfndphngeaihaaDoor
