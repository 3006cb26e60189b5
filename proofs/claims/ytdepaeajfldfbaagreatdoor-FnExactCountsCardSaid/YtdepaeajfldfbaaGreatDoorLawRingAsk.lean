/- The laws of RingRight, RingEnd, RingRoom. -/
import Derived.Test.YtdepaeajfldfbaaGreatDoorLawRing5
import Derived.Test.YtdepaeajfldfbaaGreatDoorRingAsk
import Derived.Deep.DeepCutAuto
namespace Go.Proofs.YtdepaeajfldfbaaGreatDoor
open Go.RowKit

theorem own_rin {w : World} {base a c rl cl : Nat} {recs : List ByteArray} {curs : List (Int × Int)} (h : OwnRing w base (some ⟨a, 0, none⟩) rl rl (some ⟨c, 0, none⟩) cl cl (recs.map Value.string) (curCells curs)) (hs : ∀ s ∈ recs, s.size ≤ 1048576) (hr : rl ≤ 1048576) (hc : cl ≤ 1048576) :
    RIn w (some ⟨a, 0, none⟩) rl rl (some ⟨c, 0, none⟩) cl cl recs curs :=
  ⟨own_strs h.1, own_curs h.2, (fun x e => by cases e; exact (h.1.lt a rfl).2), (fun x e => by cases e; exact (h.2.lt c rfl).2), (fun e => by cases e), (fun e => by cases e), hs, hr, hc⟩
theorem OwnRing.below {w w' : World} {base : Nat} {ra : Option Addr} {rl rc : Nat} {ca : Option Addr} {cl cc : Nat} {xs ys : List Value} (h : OwnRing w base ra rl rc ca cl cc xs ys) (hb : Below w.heap.size w w') : OwnRing w' base ra rl rc ca cl cc xs ys :=
  ⟨h.1.kept (below_grown hb) (by cases (Value.slice ra rl rc).ownBlock <;> simp), h.2.kept (below_grown hb) (by cases (Value.slice ca cl cc).ownBlock <;> simp)⟩
/-- What the laws ask of the ring that is handed in. -/
structure LIn (w : World) (ra : Option Addr) (rl : Nat) (ca : Option Addr) (cl : Nat) (recs : List ByteArray) (curs : List (Int × Int)) : Prop where
  strs : Strs w ra rl recs
  curs : Curs w ca cl curs
  sz : ∀ s ∈ recs, s.size ≤ maxLen
  rle : rl ≤ maxLen
  cle : cl ≤ maxLen
abbrev lringObj (cap first : Int) (ra : Option Addr) (rl rc : Nat) (ca : Option Addr) (cl cc : Nat) : Obj := .cells #[.int .i64 cap, .int .i64 first, .slice ra rl rc, .slice ca cl cc] 103 (0, 0)
end Go.Proofs.YtdepaeajfldfbaaGreatDoor
