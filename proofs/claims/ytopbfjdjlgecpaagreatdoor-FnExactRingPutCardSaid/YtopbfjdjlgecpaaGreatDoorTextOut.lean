/- A TextOut as a value; its comparison in the law. -/
import Derived.Test.YtopbfjdjlgecpaaGreatDoorBase
namespace Go.Proofs.YtopbfjdjlgecpaaGreatDoor
open Go.RowKit
abbrev textOut (t : ByteArray) (at_ code : Int) : Value := .agg #[.string t, .int .i64 at_, .int .i64 code]
end Go.Proofs.YtopbfjdjlgecpaaGreatDoor
