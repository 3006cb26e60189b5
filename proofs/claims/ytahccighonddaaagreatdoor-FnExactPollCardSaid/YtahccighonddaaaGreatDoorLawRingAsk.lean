import Derived.Test.YtahccighonddaaaGreatDoorLawRing5
import Derived.Test.YtahccighonddaaaGreatDoorRingAsk
import Derived.Deep.DeepCutAuto
namespace Go.Proofs.YtahccighonddaaaGreatDoor
open Go.RowKit
theorem OwnRing.below {w w' : World} {base : Nat} {ra : Option Addr} {rl rc : Nat} {ca : Option Addr} {cl cc : Nat} {xs ys : List Value} (h : OwnRing w base ra rl rc ca cl cc xs ys) (hb : Below w.heap.size w w') : OwnRing w' base ra rl rc ca cl cc xs ys :=
  ⟨h.1.kept (below_grown hb) (by cases (Value.slice ra rl rc).ownBlock <;> simp),h.2.kept (below_grown hb) (by cases (Value.slice ca cl cc).ownBlock <;> simp)⟩
structure LIn (w : World) (ra : Option Addr) (rl : Nat) (ca : Option Addr) (cl : Nat) (recs : List ByteArray) (curs : List (Int × Int)) : Prop where
  strs : Strs w ra rl recs
  curs : Curs w ca cl curs
  sz : ∀ s ∈ recs,s.size ≤ maxLen
  rle : rl ≤ maxLen
  cle : cl ≤ maxLen
end Go.Proofs.YtahccighonddaaaGreatDoor
