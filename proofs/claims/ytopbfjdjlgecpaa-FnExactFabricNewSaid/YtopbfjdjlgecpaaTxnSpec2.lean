/- The specification's TxnRight. -/
import Derived.Test.YtopbfjdjlgecpaaTxnSpec
namespace Go.Proofs.Ytopbfjdjlgecpaa
open Go.RowKit
variable {p e s u : Int} {ra la : Option Addr} {rl rc ll lc : Nat}

/-- What is handed in of a transaction. -/
structure TIn (w : World) (ra : Option Addr) (rl : Nat) (la : Option Addr) (ll : Nat) (rs ls : List Int) : Prop where
  rs : Nums w ra rl rs
  ls : Nums w la ll ls
  rle : rl ≤ 1048576
  lle : ll ≤ 1048576
theorem TIn.below {w w' : World} {rs ls : List Int} (h : TIn w ra rl la ll rs ls) (hb : Below w.heap.size w w') : TIn w' ra rl la ll rs ls := ⟨nums_below h.rs hb, nums_below h.ls hb, h.rle, h.lle⟩
def inTo2 (rs ls : List Int) (k : Nat) : Prop := ∀ j, j < k → ∀ (h : j < ls.length), hasB rs ls[j] = true
theorem in2_no {rs ls : List Int} {k : Nat} (hk : k < ls.length) (h : hasB rs ls[k] = false) : ls.all (hasB rs) = false := by
  rw [List.all_eq_false]
  exact ⟨ls[k], List.getElem_mem hk, by simp [h]⟩
theorem in2_yes {rs ls : List Int} {k : Nat} (hk : ls.length ≤ k) (h : inTo2 rs ls k) : ls.all (hasB rs) = true := by
  rw [List.all_eq_true]
  intro x hx
  obtain ⟨j, hj, rfl⟩ := List.getElem_of_mem hx
  exact h j (by omega) hj
end Go.Proofs.Ytopbfjdjlgecpaa
