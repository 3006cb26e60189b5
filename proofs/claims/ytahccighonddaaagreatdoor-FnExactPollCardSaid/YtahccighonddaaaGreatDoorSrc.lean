import Derived.Test.YtahccighonddaaaGreatDoorTextOut
import Derived.RegionTactic
import Derived.BigRegion
import Derived.Laws.BitsAllLaws
namespace Go.Proofs.YtahccighonddaaaGreatDoor
open Go.RowKit
theorem cell_of_heap {w : World} {g : Nat} {C : Array Value} {t : TypeId} (h : w.heap[g]? = some (.cells C t (0,0))) (o : Nat) : w.cell? ⟨g,o,none⟩ = C[o]? := by
  simp [World.cell?,h]
theorem frozen_of_heap {w : World} {g : Nat} {C : Array Value} {t : TypeId} (h : w.heap[g]? = some (.cells C t (0,0))) (o : Nat) : w.frozen? ⟨g,o,none⟩ = false := by
  simp [World.frozen?,h]
end Go.Proofs.YtahccighonddaaaGreatDoor
