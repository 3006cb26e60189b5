/- The specification's transactions: what is right. -/
import Derived.Test.YtopbfjdjlgecpaaTxnRows
namespace Go.Proofs.Ytopbfjdjlgecpaa
open Go.RowKit

theorem tspec_is (n a b : Int) (w : World) :
    Calls Try.prog 10 #[.int .i64 n, .int .i64 a, .int .i64 b] w fun e w' => e = .returned (.bool (decide (a ≤ n ∧ n ≤ b))) ∧ w' = w := by
  by_cases h1 : a ≤ n
  · by_cases h2 : n ≤ b
    · go_enter Try.func10, Try.ntmps10
      go_wp2
      go_ret
      exact ⟨ret_bool (decide_eq_true ⟨h1, h2⟩).symm, rfl⟩
    · go_enter Try.func10, Try.ntmps10
      go_wp2
      go_ret
      exact ⟨ret_bool (decide_eq_false (by omega)).symm, rfl⟩
  · go_enter Try.func10, Try.ntmps10
    go_wp2
    go_ret
    exact ⟨ret_bool (by simp; omega), rfl⟩
def rnumTo (l : List Int) (k : Nat) : Prop := ∀ j, j < k → ∀ (h : j < l.length), rnum l[j] = true
theorem rings_no {l : List Int} {k : Nat} (hk : k < l.length) (h : rnum l[k] = false) : ringsB l = false := by
  have e : l.all rnum = false := by
    rw [List.all_eq_false]
    exact ⟨l[k], List.getElem_mem hk, by simp [h]⟩
  simp [ringsB, e]
theorem rings_yes {l : List Int} {k : Nat} (hk : l.length ≤ k) (h : rnumTo l k) (hu : upTo l k) : ringsB l = true := by
  have e : l.all rnum = true := by
    rw [List.all_eq_true]
    intro x hx
    obtain ⟨j, hj, rfl⟩ := List.getElem_of_mem hx
    exact h j (by omega) hj
  simp [ringsB, e, up_yes hu hk]
theorem rnumTo_succ {l : List Int} {k : Nat} (hr : rnumTo l k) (hk : k < l.length) (h : rnum l[k] = true) : rnumTo l (k + 1) := fun i hi h1 => by
  by_cases hik : i = k
  · subst hik; exact h
  · exact hr i (by omega) h1
theorem upTo_succ {l : List Int} {j : Nat} (hr : upTo l (j + 1)) (hk : j + 1 < l.length) (h : l[j] < l[j + 1]) : upTo l (j + 1 + 1) := fun i hi h1 => by
  by_cases hij : i = j
  · subst hij; exact h
  · exact hr i (by omega) h1
def hasTo (l : List Int) (n : Int) (k : Nat) : Prop := ∀ j, j < k → ∀ (h : j < l.length), l[j] ≠ n
theorem has_yes {l : List Int} {n : Int} {k : Nat} (hk : k < l.length) (h : l[k] = n) : hasB l n = true := by
  unfold hasB
  rw [List.any_eq_true]
  exact ⟨l[k], List.getElem_mem hk, by simp [h]⟩
theorem has_no {l : List Int} {n : Int} {k : Nat} (hk : l.length ≤ k) (h : hasTo l n k) : hasB l n = false := by
  unfold hasB
  rw [List.any_eq_false]
  intro x hx
  obtain ⟨j, hj, rfl⟩ := List.getElem_of_mem hx
  have := h j (by omega) hj
  simpa using this
end Go.Proofs.Ytopbfjdjlgecpaa
