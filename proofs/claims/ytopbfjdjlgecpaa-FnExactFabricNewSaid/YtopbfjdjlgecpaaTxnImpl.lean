/- The program's transactions: rows of numbers in order, and what is right. -/
import Derived.Test.YtopbfjdjlgecpaaTxnSpec2
import Derived.Deep.DeepCutAuto
namespace Go.Proofs.Ytopbfjdjlgecpaa
open Go.RowKit
variable {p e s u : Int} {ra la : Option Addr} {rl rc ll lc : Nat}

/-- A state in which a transaction has ended. -/
def endsB (n : Int) : Bool := decide (2 ≤ n ∧ n ≤ 3)
/-- Where a number stands in a rising row, or would stand. -/
def findN (g : Int) (l : List Int) : Nat := l.findIdx (fun c => decide (g ≤ c))
/-- Whether it is there. -/
def findNB (g : Int) (l : List Int) : Bool := match l[findN g l]? with | some c => c == g | none => false
/-- Whether a transaction with these Rings has touched that ring. -/
def touchB (rs : List Int) (g : Int) : Bool := findNB g rs
def lowN (g : Int) (l : List Int) (k : Nat) : Prop := ∀ j, j < k → ∀ (h : j < l.length), l[j] < g
theorem findN_at {g : Int} {l : List Int} {k : Nat} (h : lowN g l k) (hk : k < l.length) (hg : g ≤ l[k]) : findN g l = k ∧ findNB g l = (l[k] == g) := by
  have e : findN g l = k := by
    unfold findN
    rw [List.findIdx_eq hk]
    exact ⟨by simpa using hg, fun j hj => by have := h j hj (by omega); simp; omega⟩
  refine ⟨e, ?_⟩
  unfold findNB
  rw [e, List.getElem?_eq_getElem hk]
theorem findN_none {g : Int} {l : List Int} {k : Nat} (h : lowN g l k) (hk : l.length ≤ k) : findN g l = l.length ∧ findNB g l = false := by
  have e : findN g l = l.length := by
    unfold findN
    rw [List.findIdx_eq_length]
    intro x hx
    obtain ⟨j, hj, rfl⟩ := List.getElem_of_mem hx
    have := h j (by omega) hj
    simp; omega
  refine ⟨e, ?_⟩
  unfold findNB
  rw [e, List.getElem?_eq_none (Nat.le_refl _)]
theorem findN_le (g : Int) (l : List Int) : findN g l ≤ l.length := List.findIdx_le_length
theorem findN_low (g : Int) (l : List Int) : lowN g l (findN g l) := fun j hj h => by
  have := List.not_of_lt_findIdx hj
  simp at this
  omega
/-- In a rising row what is found is there. -/
theorem find_has {l : List Int} (h : upB l = true) (g : Int) : findNB g l = hasB l g := by
  by_cases hk : findN g l < l.length
  · have hg : g ≤ l[findN g l] := by
      have := List.findIdx_getElem (w := hk)
      exact of_decide_eq_true this
    rw [(findN_at (findN_low g l) hk hg).2]
    by_cases he : l[findN g l] = g
    · rw [has_yes hk he]; simpa using he
    · have h0 : hasB l g = false := has_no (k := l.length) (Nat.le_refl _) fun j _ hj e => by
        by_cases h1 : j < findN g l
        · have := findN_low g l j h1 hj; omega
        · by_cases h2 : j = findN g l
          · subst h2; exact he e
          · have := up_at h (show findN g l < j by omega) hj; omega
      rw [h0]
      simpa using he
  · have hle := findN_le g l
    rw [(findN_none (findN_low g l) (by omega)).2, has_no (k := l.length) (Nat.le_refl _)]
    intro j hj h1 e
    have := findN_low g l j (by omega) h1
    omega
def fitTo (f : Int → Bool) (l : List Int) (k : Nat) : Prop := ∀ j, j < k → ∀ (h : j < l.length), f l[j] = true
theorem fit_no {f : Int → Bool} {l : List Int} {k : Nat} (hk : k < l.length) (h : f l[k] = false) : l.all f = false := by
  rw [List.all_eq_false]
  exact ⟨l[k], List.getElem_mem hk, by simp [h]⟩
theorem fit_yes {f : Int → Bool} {l : List Int} {k : Nat} (hk : l.length ≤ k) (h : fitTo f l k) : l.all f = true := by
  rw [List.all_eq_true]
  intro x hx
  obtain ⟨j, hj, rfl⟩ := List.getElem_of_mem hx
  exact h j (by omega) hj
end Go.Proofs.Ytopbfjdjlgecpaa
