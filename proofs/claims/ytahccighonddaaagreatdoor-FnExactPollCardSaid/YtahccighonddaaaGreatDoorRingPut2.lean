import Derived.Test.YtahccighonddaaaGreatDoorRingPut
namespace Go.Proofs.YtahccighonddaaaGreatDoor
open Go.RowKit
variable {cap first : Int} {ra ca : Option Addr} {rl rc cl cc : Nat}
abbrev W3 (w : World) (cap first : Int) (ra : Option Addr) (rl rc : Nat) (ca : Option Addr) (cl cc : Nat) (k t : Int) (d : ByteArray) : World := ((w.alloc (ringObj cap first ra rl rc ca cl cc)).alloc (precObj k t d)).alloc outObj0
end Go.Proofs.YtahccighonddaaaGreatDoor
