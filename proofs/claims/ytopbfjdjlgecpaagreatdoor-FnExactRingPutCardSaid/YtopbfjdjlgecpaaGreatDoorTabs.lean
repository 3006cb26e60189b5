/- A world in which the decoder's two tables lie: for the frames' witnesses. -/
import Derived.Test.YtopbfjdjlgecpaaGreatDoorDec
namespace Go.Proofs.YtopbfjdjlgecpaaGreatDoor
/-- A world with the two tables laid in their blocks. -/
def rowOf (cs : Array Value) : Obj → Obj
  | .cells _ t frozen => .cells cs t frozen
  | o => o
def withTabs (w : World) : World :=
  { w with heap := (w.heap.modify 0 (rowOf (Lib.firstTab.map fun z => Value.int .u8 z).toArray)).modify 1 (rowOf ((List.range 16).flatMap fun i => [Value.int .u8 (Lib.accLo i : Nat), Value.int .u8 (Lib.accHi i : Nat)]).toArray) }
end Go.Proofs.YtopbfjdjlgecpaaGreatDoor
