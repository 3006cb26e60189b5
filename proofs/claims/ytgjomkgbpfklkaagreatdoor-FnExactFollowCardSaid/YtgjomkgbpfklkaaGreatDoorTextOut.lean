/- A TextOut as a value; its comparison in the law. -/
import Derived.Test.YtgjomkgbpfklkaaGreatDoorBase
namespace Go.Proofs.YtgjomkgbpfklkaaGreatDoor
open Go.RowKit
abbrev textOut (t : ByteArray) (at_ code : Int) : Value := .agg #[.string t, .int .i64 at_, .int .i64 code]
end Go.Proofs.YtgjomkgbpfklkaaGreatDoor
