/- A transaction that is handed to a law by value: what can be read of it. -/
import Derived.Test.YtopbfjdjlgecpaaLawTxn0
import Derived.Lib.SmallJoins
import Derived.ChangeSlices
import Derived.ProofKit
import Derived.OpenShut
namespace Go.Proofs.Ytopbfjdjlgecpaa
open Go.ChangeShapes Go.WideShapes Go.ChangeAt Go.RowKit Go.Deep

/-- What the laws ask of the transaction that is handed in. -/
structure LTIn (w : World) (ra : Option Addr) (rl : Nat) (la : Option Addr) (ll : Nat) (rs ls : List Int) : Prop where
  rs : Nums w ra rl rs
  ls : Nums w la ll ls
  rle : rl ≤ maxLen
  lle : ll ≤ maxLen
theorem LTIn.below {w w' : World} {ra la : Option Addr} {rl ll : Nat} {rs ls : List Int} (h : LTIn w ra rl la ll rs ls) (hb : Below w.heap.size w w') : LTIn w' ra rl la ll rs ls := ⟨nums_below h.rs hb, nums_below h.ls hb, h.rle, h.lle⟩
theorem cellsI64 : Try.prog.cellsOf 2 = 1 := by kernel_rfl
theorem nums_of_trod {H : Type} {enc : TypeId × Value → H} {w : World} {n : Nat} {x : Value} {y : DataW H × List MemPlace} (h : DataW.trod enc Try.prog w 0 (fun _ => true) true n 23 [x] = some y) :
    ∃ a len cap l, x = .slice a len cap ∧ Nums w a len l ∧ len ≤ maxLen := by
  rcases open_ints Try.underlying23 Try.underlying2 cellsI64 h with ⟨e, _⟩ | ⟨a, len, cap, zs, e, _, hl, hm, hz, _, hcell, _⟩
  · exact ⟨none, 0, 0, [], by simpa using e, ⟨rfl, fun i hi => by simp at hi⟩, by unfold maxLen; omega⟩
  · simp at hz
    refine ⟨some a, len, cap, zs.take len, by simpa using e, ⟨by simp; omega, fun i hi => ?_⟩, Nat.le_trans hl hm⟩
    have hi' : i < len := by simp at hi; omega
    obtain ⟨b, off, spot⟩ := a
    have hspot : spot = none := by simpa [Addr.add] using World.cell?_spot (hcell 0 (by omega))
    subst hspot
    refine ⟨b, off, rfl, ?_⟩
    have hc := hcell i (by omega)
    rw [Addr.add_lit] at hc
    rw [hc]
    simp [show i < zs.length by omega]
theorem array6 {α : Type} {cs : Array α} (h : cs.size = 6) : ∃ c0 c1 c2 c3 c4 c5, cs = #[c0, c1, c2, c3, c4, c5] := by
  obtain ⟨l⟩ := cs
  match l, h with
  | [c0, c1, c2, c3, c4, c5], _ => exact ⟨c0, c1, c2, c3, c4, c5, rfl⟩
end Go.Proofs.Ytopbfjdjlgecpaa
