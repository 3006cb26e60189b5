/- A ring at work: finding a cursor. -/
import Derived.Test.YtblkbpgnhkjaaaaDoorRingWork3
namespace Go.Proofs.YtblkbpgnhkjaaaaDoor
open Go.RowKit
variable {cap first : Int} {ra ca : Option Addr} {rl rc cl cc : Nat}

/-- Where the cursor of group g stands, or would stand. -/
def findK (g : Int) (l : List (Int × Int)) : Nat := l.findIdx (fun c => decide (g ≤ c.1))
/-- Whether it is there. -/
def findB (g : Int) (l : List (Int × Int)) : Bool := match l[findK g l]? with | some c => c.1 == g | none => false
def lowTo (g : Int) (l : List (Int × Int)) (k : Nat) : Prop := ∀ j, j < k → ∀ (h : j < l.length), l[j].1 < g
theorem find_at {g : Int} {l : List (Int × Int)} {k : Nat} (h : lowTo g l k) (hk : k < l.length) (hg : g ≤ l[k].1) : findK g l = k ∧ findB g l = (l[k].1 == g) := by
  have e : findK g l = k := by
    unfold findK
    rw [List.findIdx_eq hk]
    exact ⟨by simpa using hg, fun j hj => by have := h j hj (by omega); simp; omega⟩
  refine ⟨e, ?_⟩
  unfold findB
  rw [e, List.getElem?_eq_getElem hk]
theorem find_none {g : Int} {l : List (Int × Int)} {k : Nat} (h : lowTo g l k) (hk : l.length ≤ k) : findK g l = l.length ∧ findB g l = false := by
  have e : findK g l = l.length := by
    unfold findK
    rw [List.findIdx_eq_length]
    intro x hx
    obtain ⟨j, hj, rfl⟩ := List.getElem_of_mem hx
    have := h j (by omega) hj
    simp; omega
  refine ⟨e, ?_⟩
  unfold findB
  rw [e, List.getElem?_eq_none (Nat.le_refl _)]
end Go.Proofs.YtblkbpgnhkjaaaaDoor
