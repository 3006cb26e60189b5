/- Contracts for the records of the specification. -/
import Derived.Test.YtopbfjdjlgecpaaGreatDoorRecMath
import Derived.Test.YtopbfjdjlgecpaaGreatDoorSeal
import Derived.RegionTactic
import Derived.BigRegion
import Derived.Deep.RegionWith
namespace Go.Proofs.YtopbfjdjlgecpaaGreatDoor
open Go.RowKit

abbrev recV (k t : Int) (d : ByteArray) : Value := .agg #[.int .i64 k, .int .i64 t, .string d]
theorem isEmpty_size (d : ByteArray) : d.toList.isEmpty = decide (d.size = 0) := by
  rw [Lib.toList_data]
  have hsz : d.data.toList.length = d.size := by simp
  cases h : d.data.toList with
  | nil => rw [h] at hsz; simp at hsz; simp [← hsz]
  | cons x r => rw [h] at hsz; exact (decide_eq_false (by simp at hsz; omega)).symm
theorem right_iff {k t : Int} {d : ByteArray} : recRightB k t d = true ↔ ((1 ≤ k ∧ k ≤ 3) ∧ (1 ≤ t ∧ t ≤ 1000000) ∧ d.size ≤ 16 ∧ (k = 1 ∨ d.size = 0)) := by
  simp only [recRightB, Bool.and_eq_true, Bool.or_eq_true, decide_eq_true_eq]
  omega
theorem right_yes {k t : Int} {d : ByteArray} (h1 : 1 ≤ k ∧ k ≤ 3) (h2 : 1 ≤ t ∧ t ≤ 1000000) (h3 : d.size ≤ 16) (h4 : k = 1 ∨ d.size = 0) : recRightB k t d = true :=
  right_iff.2 ⟨h1, h2, h3, h4⟩
theorem right_no {k t : Int} {d : ByteArray} (h : ¬ ((1 ≤ k ∧ k ≤ 3) ∧ (1 ≤ t ∧ t ≤ 1000000) ∧ d.size ≤ 16 ∧ (k = 1 ∨ d.size = 0))) : recRightB k t d = false := by
  cases hR : recRightB k t d
  · rfl
  · exfalso
    simp only [recRightB, Bool.and_eq_true, Bool.or_eq_true, decide_eq_true_eq] at hR
    omega
theorem spec_is (n a b : Int) (w : World) :
    Calls Tryz.prog 62 #[.int .i64 n, .int .i64 a, .int .i64 b] w fun e w' => e = .returned (.bool (decide (a ≤ n ∧ n ≤ b))) ∧ w' = w := by
  by_cases h1 : a ≤ n
  · by_cases h2 : n ≤ b
    · go_enter Tryz.func62, Tryz.ntmps62
      go_wp2
      go_ret
      exact ⟨ret_bool (decide_eq_true ⟨h1, h2⟩).symm, rfl⟩
    · go_enter Tryz.func62, Tryz.ntmps62
      go_wp2
      go_ret
      exact ⟨ret_bool (decide_eq_false (by omega)).symm, rfl⟩
  · go_enter Tryz.func62, Tryz.ntmps62
    go_wp2
    go_ret
    exact ⟨ret_bool (by simp; omega), rfl⟩
theorem spec_recRight (k t : Int) (d : ByteArray) (w : World) (hm : d.size ≤ maxLen) :
    Calls Tryz.prog 58 #[recV k t d] w fun e w' => e = .returned (.bool (recRightB k t d)) ∧ Below w.heap.size w w' := by
  unfold maxLen at hm
  go_enter Tryz.func58, Tryz.ntmps58
  go_wp2_with (first | (go_at_call 62; refine (spec_is _ _ _ _).mono ?_; rintro e w' ⟨rfl, rfl⟩))
  · rename_i h1 h2 h3 h4
    subst h4
    go_ret
    exact ⟨ret_bool (right_yes h1 h2 (by omega) (.inl rfl)).symm, (Below.refl _ _).alloc (Nat.le_refl _) _⟩
  · rename_i h1 h2 h3 h4
    go_ret
    refine ⟨ret_bool ?_, (Below.refl _ _).alloc (Nat.le_refl _) _⟩
    rw [isEmpty_size, beq_false_of_ne h4, Bool.false_or]
    by_cases h5 : d.size = 0
    · rw [decide_eq_true h5, right_yes h1 h2 (by omega) (.inr h5)]
    · rw [decide_eq_false h5, right_no (by omega)]
  · rename_i h1 h2 h3
    go_ret
    exact ⟨ret_bool (right_no (by omega)).symm, (Below.refl _ _).alloc (Nat.le_refl _) _⟩
  · rename_i h1 h2
    go_ret
    exact ⟨ret_bool (right_no (by omega)).symm, (Below.refl _ _).alloc (Nat.le_refl _) _⟩
  · rename_i h1
    go_ret
    exact ⟨ret_bool (right_no (by omega)).symm, (Below.refl _ _).alloc (Nat.le_refl _) _⟩

end Go.Proofs.YtopbfjdjlgecpaaGreatDoor
