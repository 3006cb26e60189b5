import Derived.Test.YtahccighonddaaaGreatDoorSpecMove
import Derived.Test.YtahccighonddaaaGreatDoorRecBytes
namespace Go.Proofs.YtahccighonddaaaGreatDoor
open Go.RowKit
variable {cap first : Int} {ra ca : Option Addr} {rl rc cl cc : Nat}
abbrev precObj (k t : Int) (d : ByteArray) : Obj := .cells #[.int .i64 k,.int .i64 t,.string d] 65 (0,0)
end Go.Proofs.YtahccighonddaaaGreatDoor
