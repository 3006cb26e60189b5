import Derived.Test.YtneiihikcnjglaaGreatDoorTextOut
import Derived.Below
/- Rings as values in memory: slices of texts and of cursors that can be read. -/
namespace Go.Proofs.YtneiihikcnjglaaGreatDoor
open Go.RowKit

def capB (n : Int) : Bool := n == 4 || n == 8 || n == 16
/-- The least place of the cursors; without any: First. -/
def curLeast (first : Int) : List (Int × Int) → Int
  | [] => first
  | c :: r => (c :: r).foldl (fun n x => min n x.2) c.2
/-- A slice of texts that can be read. -/
def Strs (w : World) (a : Option Addr) (len : Nat) (l : List ByteArray) : Prop :=
  l.length = len ∧ ∀ i (h : i < l.length), ∃ b off, a = some ⟨b, off, none⟩ ∧ w.cell? ⟨b, off + i, none⟩ = some (.string l[i])
/-- A slice of cursors that can be read: two cells each. -/
def Curs (w : World) (a : Option Addr) (len : Nat) (l : List (Int × Int)) : Prop :=
  l.length = len ∧ ∀ i (h : i < l.length), ∃ b off, a = some ⟨b, off, none⟩ ∧ w.cell? ⟨b, off + i * 2, none⟩ = some (.int .i64 l[i].1) ∧ w.cell? ⟨b, off + i * 2 + 1, none⟩ = some (.int .i64 l[i].2)
theorem strs_below {w w' : World} {a : Option Addr} {len : Nat} {l : List ByteArray} (h : Strs w a len l) (hb : Below w.heap.size w w') : Strs w' a len l :=
  ⟨h.1, fun i hi => by
    obtain ⟨b, off, e, hc⟩ := h.2 i hi
    exact ⟨b, off, e, (hb.cell (p := ⟨b, off + i, none⟩) (World.block_lt_of_cell? w ⟨b, off + i, none⟩ hc)).trans hc⟩⟩
theorem curs_below {w w' : World} {a : Option Addr} {len : Nat} {l : List (Int × Int)} (h : Curs w a len l) (hb : Below w.heap.size w w') : Curs w' a len l :=
  ⟨h.1, fun i hi => by
    obtain ⟨b, off, e, hc, hd⟩ := h.2 i hi
    exact ⟨b, off, e, (hb.cell (p := ⟨b, off + i * 2, none⟩) (World.block_lt_of_cell? w ⟨b, off + i * 2, none⟩ hc)).trans hc, (hb.cell (p := ⟨b, off + i * 2 + 1, none⟩) (World.block_lt_of_cell? w ⟨b, off + i * 2 + 1, none⟩ hd)).trans hd⟩⟩
theorem below_tr {w u v : World} (h : Below w.heap.size w u) (hb : Below u.heap.size u v) : Below w.heap.size w v := h.trans (hb.mono h.size)
abbrev ringV (cap first : Int) (ra : Option Addr) (rl rc : Nat) (ca : Option Addr) (cl cc : Nat) : Value := .agg #[.int .i64 cap, .int .i64 first, .slice ra rl rc, .slice ca cl cc]
abbrev ringObj (cap first : Int) (ra : Option Addr) (rl rc : Nat) (ca : Option Addr) (cl cc : Nat) : Obj := .cells #[.int .i64 cap, .int .i64 first, .slice ra rl rc, .slice ca cl cc] 92 (0, 0)
end Go.Proofs.YtneiihikcnjglaaGreatDoor
/- RingNew, of the program and of the specification. -/
namespace Go.Proofs.YtneiihikcnjglaaGreatDoor
open Go.RowKit
end Go.Proofs.YtneiihikcnjglaaGreatDoor
