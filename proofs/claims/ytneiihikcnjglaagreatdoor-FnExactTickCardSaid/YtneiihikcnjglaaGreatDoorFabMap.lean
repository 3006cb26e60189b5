/- The map of what is open, by its producer. -/
import Derived.Test.YtneiihikcnjglaaGreatDoorSpecFab5
import Derived.Maps.Own
import Derived.Maps.OwnOps
import Derived.Maps.OwnSet
import Derived.Maps.Views
import Derived.WalkArith
namespace Go.Proofs.YtneiihikcnjglaaGreatDoor
open Go.RowKit Go.Maps

theorem mapKey : Keyed Tryz.prog 2 := int_keyed Tryz.underlying2
theorem mapZero (w : World) : (zeroValue 3).run Tryz.prog w = .ok (.int .i64 0) w := by kernel_rfl
theorem wf64 {a : Int} (h : -9223372036854775808 ≤ a ∧ a ≤ 9223372036854775807) : (Lit.int .i64 a).wf = true := by
  exact WalkArith.wf_i64 h
/-- The place of the last that a producer has open, among the first k; 0 without one. -/
def lastAt (ts : List TD) (p : Int) : Nat → Nat
  | 0 => 0
  | k + 1 => match ts[k]? with | some t => if t.s = 1 ∧ t.p = p then k else lastAt ts p k | none => lastAt ts p k
/-- The map as it reads after k. -/
def openD (ts : List TD) : Nat → DataW Unit
  | 0 => .map []
  | k + 1 => match ts[k]? with | some t => if t.s = 1 then (openD ts k).put (.int .i64 t.p) (.lit (.int .i64 (k : Int))) else openD ts k | none => openD ts k
theorem openD_isMap (ts : List TD) (k : Nat) : IsMap (openD ts k) := by
  induction k with
  | zero => exact ⟨[], rfl⟩
  | succ k ih =>
    unfold openD
    split
    · split
      · obtain ⟨es, e⟩ := ih
        rw [e]
        exact ⟨_, rfl⟩
      · exact ih
    · exact ih
theorem openD_at (ts : List TD) (p : Int) (k : Nat) : (openD ts k).atKey (.int .i64 p) (.lit (.int .i64 0)) = .lit (.int .i64 (lastAt ts p k : Int)) := by
  induction k with
  | zero => rfl
  | succ k ih =>
    unfold openD lastAt
    cases h : ts[k]? with
    | none => exact ih
    | some t =>
      simp only
      by_cases hs : t.s = 1
      · rw [if_pos hs]
        by_cases hp : t.p = p
        · subst hp
          rw [if_pos ⟨hs, rfl⟩, atKey_put_same (openD_isMap ts k) (by simp [WideAt.IsKeyLit])]
        · rw [if_neg (fun hh => hp hh.2), atKey_put_other (by intro e; cases e; exact hp rfl)]
          exact ih
      · rw [if_neg hs, if_neg (fun hh => hs hh.1)]
        exact ih
theorem lastAt_le (ts : List TD) (p : Int) (k : Nat) : lastAt ts p k ≤ k := by
  induction k with
  | zero => exact Nat.le_refl _
  | succ k ih =>
    unfold lastAt
    split
    · split <;> omega
    · omega
theorem lastAt_ge {ts : List TD} {p : Int} {j : Nat} {t : TD} (hj : ts[j]? = some t) (hs : t.s = 1) (hp : t.p = p) (k : Nat) (hk : j < k) : j ≤ lastAt ts p k := by
  induction k with
  | zero => omega
  | succ k ih =>
    unfold lastAt
    by_cases e : j = k
    · subst e
      rw [hj]
      simp [hs, hp]
    · split
      · split
        · omega
        · exact ih (by omega)
      · exact ih (by omega)
theorem lastAt_is {ts : List TD} {p : Int} {j : Nat} {t : TD} (hj : ts[j]? = some t) (hs : t.s = 1) (hp : t.p = p) (k : Nat) (hk : j < k) : ∃ u, ts[lastAt ts p k]? = some u ∧ u.s = 1 ∧ u.p = p := by
  induction k with
  | zero => omega
  | succ k ih =>
    unfold lastAt
    by_cases e : j = k
    · subst e
      rw [hj]
      simp only
      rw [if_pos ⟨hs, hp⟩]
      exact ⟨t, hj, hs, hp⟩
    · cases h : ts[k]? with
      | none => exact ih (by omega)
      | some u =>
        simp only
        by_cases hh : u.s = 1 ∧ u.p = p
        · rw [if_pos hh]; exact ⟨u, h, hh.1, hh.2⟩
        · rw [if_neg hh]; exact ih (by omega)
end Go.Proofs.YtneiihikcnjglaaGreatDoor
