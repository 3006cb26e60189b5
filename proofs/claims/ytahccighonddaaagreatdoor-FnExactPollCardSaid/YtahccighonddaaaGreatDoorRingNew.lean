import Derived.Test.YtahccighonddaaaGreatDoorTextOut
import Derived.Below
namespace Go.Proofs.YtahccighonddaaaGreatDoor
open Go.RowKit
def capB (n : Int) : Bool := n == 4 || n == 8 || n == 16
def curLeast (first : Int) : List (Int × Int) → Int
  | [] => first
  | c :: r => (c :: r).foldl (fun n x => min n x.2) c.2
def Strs (w : World) (a : Option Addr) (len : Nat) (l : List ByteArray) : Prop :=
  l.length = len ∧ ∀ i (h : i < l.length),∃ b off,a = some ⟨b,off,none⟩ ∧ w.cell? ⟨b,off + i,none⟩ = some (.string l[i])
def Curs (w : World) (a : Option Addr) (len : Nat) (l : List (Int × Int)) : Prop :=
  l.length = len ∧ ∀ i (h : i < l.length),∃ b off,a = some ⟨b,off,none⟩ ∧ w.cell? ⟨b,off + i * 2,none⟩ = some (.int .i64 l[i].1) ∧ w.cell? ⟨b,off + i * 2 + 1,none⟩ = some (.int .i64 l[i].2)
theorem strs_below {w w' : World} {a : Option Addr} {len : Nat} {l : List ByteArray} (h : Strs w a len l) (hb : Below w.heap.size w w') : Strs w' a len l :=
  ⟨h.1,fun i hi => by
    obtain ⟨b,off,e,hc⟩ := h.2 i hi
    exact ⟨b,off,e,(hb.cell (p := ⟨b,off + i,none⟩) (World.block_lt_of_cell? w ⟨b,off + i,none⟩ hc)).trans hc⟩⟩
theorem curs_below {w w' : World} {a : Option Addr} {len : Nat} {l : List (Int × Int)} (h : Curs w a len l) (hb : Below w.heap.size w w') : Curs w' a len l :=
  ⟨h.1,fun i hi => by
    obtain ⟨b,off,e,hc,hd⟩ := h.2 i hi
    exact ⟨b,off,e,(hb.cell (p := ⟨b,off + i * 2,none⟩) (World.block_lt_of_cell? w ⟨b,off + i * 2,none⟩ hc)).trans hc,(hb.cell (p := ⟨b,off + i * 2 + 1,none⟩) (World.block_lt_of_cell? w ⟨b,off + i * 2 + 1,none⟩ hd)).trans hd⟩⟩
theorem below_tr {w u v : World} (h : Below w.heap.size w u) (hb : Below u.heap.size u v) : Below w.heap.size w v := h.trans (hb.mono h.size)
theorem below_set8 {B : Nat} {a w : World} (h : Below B a w) (b : Nat) (hb : B ≤ b) (v0 v1 v2 v3 v4 v5 v6 v7 : Value) :
    Below B a ((((((((w.setCell ⟨b,0,none⟩ v0).setCell ⟨b,1,none⟩ v1).setCell ⟨b,2,none⟩ v2).setCell ⟨b,3,none⟩ v3).setCell ⟨b,4,none⟩ v4).setCell ⟨b,5,none⟩ v5).setCell ⟨b,6,none⟩ v6).setCell ⟨b,7,none⟩ v7) :=
  (((((((h.setCell (p := ⟨b,0,none⟩) hb _).setCell (p := ⟨b,1,none⟩) hb _).setCell (p := ⟨b,2,none⟩) hb _).setCell (p := ⟨b,3,none⟩) hb _).setCell (p := ⟨b,4,none⟩) hb _).setCell (p := ⟨b,5,none⟩) hb _).setCell (p := ⟨b,6,none⟩) hb _).setCell (p := ⟨b,7,none⟩) hb _
abbrev ringV (cap first : Int) (ra : Option Addr) (rl rc : Nat) (ca : Option Addr) (cl cc : Nat) : Value := .agg #[.int .i64 cap,.int .i64 first,.slice ra rl rc,.slice ca cl cc]
abbrev ringObj (cap first : Int) (ra : Option Addr) (rl rc : Nat) (ca : Option Addr) (cl cc : Nat) : Obj := .cells #[.int .i64 cap,.int .i64 first,.slice ra rl rc,.slice ca cl cc] 63 (0,0)
abbrev ringOutV (cap first : Int) (ra : Option Addr) (rl rc : Nat) (ca : Option Addr) (cl cc : Nat) (k t : Int) (d : ByteArray) (c : Int) : Value :=
  .agg #[.int .i64 cap,.int .i64 first,.slice ra rl rc,.slice ca cl cc,.int .i64 k,.int .i64 t,.string d,.int .i64 c]
abbrev ringIll (c : Int) : Value := ringOutV 0 0 none 0 0 none 0 0 0 0 ⟨#[]⟩ c
end Go.Proofs.YtahccighonddaaaGreatDoor
namespace Go.Proofs.YtahccighonddaaaGreatDoor
open Go.RowKit
end Go.Proofs.YtahccighonddaaaGreatDoor
