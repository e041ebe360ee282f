/- Walks over items: ref Depth. -/
import Derived.Test.YtlmdbeccfoncpaaGreatDoorZCbB
namespace Go.Proofs.YtlmdbeccfoncpaaGreatDoor
open Go.RowKit Go.Shelf

theorem max_cast (a b : Nat) : (if a < b then (b : Int) else (a : Int)) = ((max a b : Nat) : Int) := by
  split <;> omega

end Go.Proofs.YtlmdbeccfoncpaaGreatDoor
