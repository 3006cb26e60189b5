import Derived.Test.YtahccighonddaaaGreatDoorRecBytes
import Derived.Test.YtahccighonddaaaGreatDoorRingNew
namespace Go.Proofs.YtahccighonddaaaGreatDoor
open Go.RowKit
def recOkB (s : ByteArray) : Bool := (readRes s).2.2.2 == 0
def recsOk (recs : List ByteArray) : Bool := recs.all recOkB
def cursOk (first fin : Int) : Option Int → List (Int × Int) → Bool
  | _,[] => true
  | p,c :: r => decide (1 ≤ c.1 ∧ c.1 ≤ 9) && decide (first ≤ c.2 ∧ c.2 ≤ fin) && (match p with | none => true | some q => decide (q < c.1)) && cursOk first fin (some c.1) r
def ringRightB (cap first : Int) (recs : List ByteArray) (curs : List (Int × Int)) : Bool :=
  capB cap && decide (0 ≤ first ∧ first ≤ 1000000) && decide ((recs.length : Int) ≤ cap) && decide (first + (recs.length : Int) ≤ 1000000) && decide (curs.length ≤ 4) &&
    recsOk recs && cursOk first (first + (recs.length : Int)) none curs && decide (curLeast first curs = first)
end Go.Proofs.YtahccighonddaaaGreatDoor
