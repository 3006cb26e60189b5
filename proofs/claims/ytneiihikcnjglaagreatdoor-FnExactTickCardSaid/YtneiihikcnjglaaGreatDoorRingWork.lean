/- A ring at work: its block, the small methods, the least place. -/
import Derived.Test.YtneiihikcnjglaaGreatDoorOnce
import Derived.Test.YtneiihikcnjglaaGreatDoorRingMath
import Derived.Test.YtneiihikcnjglaaGreatDoorRecSpec4
import Derived.Test.YtneiihikcnjglaaGreatDoorSrc
import Derived.Deep.RegionHeld3
import Derived.Deep.DeepCutAuto
import Derived.Maps.AppendAt
import Derived.Maps.Range
import Derived.Maps.RangeWalk
import Derived.BigQuiet
namespace Go.Proofs.YtneiihikcnjglaaGreatDoor
open Go.RowKit
variable {cap first : Int} {ra ca : Option Addr} {rl rc cl cc : Nat}

/-- A ring at work, as it lies in its block: d tells whether the least place l has been reckoned. -/
abbrev workCells (cap first : Int) (ra : Option Addr) (rl rc : Nat) (ca : Option Addr) (cl cc : Nat) (d st l : Int) : Array Value :=
  #[.int .i64 cap, .int .i64 first, .slice ra rl rc, .slice ca cl cc, .int .u32 d, .int .i32 st, .int .u32 0, .int .i64 l]
def Work (w : World) (b : Nat) (cap first : Int) (ra : Option Addr) (rl rc : Nat) (ca : Option Addr) (cl cc : Nat) (d st l : Int) : Prop :=
  w.heap[b]? = some (.cells (workCells cap first ra rl rc ca cl cc d st l) 216 (0, 0))
theorem Work.cell {w : World} {b : Nat} {d st l : Int} (h : Work w b cap first ra rl rc ca cl cc d st l) (i : Nat) : w.cell? ⟨b, i, none⟩ = (workCells cap first ra rl rc ca cl cc d st l)[i]? := cell_of_heap h i
theorem Work.frozen {w : World} {b : Nat} {d st l : Int} (h : Work w b cap first ra rl rc ca cl cc d st l) (i : Nat) : w.frozen? ⟨b, i, none⟩ = false := frozen_of_heap h i
theorem Work.lt {w : World} {b : Nat} {d st l : Int} (h : Work w b cap first ra rl rc ca cl cc d st l) : b < w.heap.size := (Array.getElem?_eq_some_iff.1 h).1
theorem Work.below {w w' : World} {b : Nat} {d st l : Int} (h : Work w b cap first ra rl rc ca cl cc d st l) (hb : Below w.heap.size w w') : Work w' b cap first ra rl rc ca cl cc d st l := (hb.block b h.lt).trans h
theorem Work.grown {w w' : World} {b : Nat} {d st l : Int} {row : Option Nat} (h : Work w b cap first ra rl rc ca cl cc d st l) (hb : w.grownBy w' row) (hne : some b ≠ row) : Work w' b cap first ra rl rc ca cl cc d st l := (hb.block b h.lt hne).trans h
theorem work_cells {w : World} {b : Nat} {d st l : Int} (h : Work w b cap first ra rl rc ca cl cc d st l) :
    w.cell? ⟨b, 0, none⟩ = some (.int .i64 cap) ∧ w.cell? ⟨b, 1, none⟩ = some (.int .i64 first) ∧ w.cell? ⟨b, 2, none⟩ = some (.slice ra rl rc) ∧ w.cell? ⟨b, 3, none⟩ = some (.slice ca cl cc) ∧
      w.cell? ⟨b, 4, none⟩ = some (.int .u32 d) ∧ w.cell? ⟨b, 5, none⟩ = some (.int .i32 st) ∧ w.cell? ⟨b, 6, none⟩ = some (.int .u32 0) ∧ w.cell? ⟨b, 7, none⟩ = some (.int .i64 l) :=
  ⟨h.cell 0, h.cell 1, h.cell 2, h.cell 3, h.cell 4, h.cell 5, h.cell 6, h.cell 7⟩
theorem grown_of_below {w w' : World} (h : Below w.heap.size w w') (row : Option Nat) : w.grownBy w' row := ⟨h.os, h.tape, h.output, h.size, fun k hk _ => h.block k hk⟩
theorem below_of_grown {w w' : World} (h : w.grownBy w' none) : Below w.heap.size w w' := ⟨h.os, h.tape, h.output, h.size, fun k hk => h.block k hk (by simp)⟩
theorem grown_setc (w : World) (b i : Nat) (v : Value) : w.grownBy (w.setCell ⟨b, i, none⟩ v) (some b) :=
  ⟨rfl, rfl, rfl, by simp [World.setCell], fun k _ hk => Below.heap_setCell _ _ _ _ (fun e => hk (by rw [e]))⟩
theorem grown_drewc (w : World) (row : Option Nat) : w.grownBy w.drew row := ⟨rfl, rfl, rfl, Nat.le_refl _, fun _ _ _ => rfl⟩

theorem impl_atWork (w : World) :
    Calls Tryz.prog 144 #[ringV cap first ra rl rc ca cl cc] w fun e w' => e = .returned (.pointer (some ⟨w.heap.size + 1, 0, none⟩)) ∧ Below w.heap.size w w' ∧ Work w' (w.heap.size + 1) cap first ra rl rc ca cl cc 0 0 0 ∧ w'.heap.size = w.heap.size + 2 := by
  go_enter Tryz.func144, Tryz.ntmps144
  go_wp2
  go_ret
  refine ⟨rfl, ((Below.refl _ _).alloc (Nat.le_refl _) _).alloc (by simp) _, ?_, by simp⟩
  have h := heap_alloc_new (w.alloc (ringObj cap first ra rl rc ca cl cc)) (.cells (workCells cap first ra rl rc ca cl cc 0 0 0) 216 (0, 0))
  rw [World.size_alloc] at h
  exact h
theorem impl_end (b : Nat) (d st l : Int) (w : World) (hw : Work w b cap first ra rl rc ca cl cc d st l) (h : 0 ≤ first ∧ first ≤ 1000000) (hl : rl ≤ 1048576) :
    Calls Tryz.prog 181 #[.pointer (some ⟨b, 0, none⟩)] w fun e w' => e = .returned (.int .i64 (first + (rl : Int))) ∧ Below w.heap.size w w' := by
  obtain ⟨c0, c1, c2, c3, c4, c5, c6, c7⟩ := work_cells hw
  go_enter Tryz.func181, Tryz.ntmps181
  go_wp2
  go_region
  all_goals go_wp2
  all_goals go_ret
  all_goals exact ⟨rfl, (Below.refl _ _).drew⟩
theorem impl_room (b : Nat) (d st l : Int) (w : World) (hw : Work w b cap first ra rl rc ca cl cc d st l) (h : -100 ≤ cap ∧ cap ≤ 100) (hl : rl ≤ 1048576) :
    Calls Tryz.prog 180 #[.pointer (some ⟨b, 0, none⟩)] w fun e w' => e = .returned (.int .i64 (cap - (rl : Int))) ∧ Below w.heap.size w w' := by
  obtain ⟨c0, c1, c2, c3, c4, c5, c6, c7⟩ := work_cells hw
  go_enter Tryz.func180, Tryz.ntmps180
  go_wp2
  go_region
  all_goals go_wp2
  all_goals go_ret
  all_goals exact ⟨rfl, (Below.refl _ _).drew⟩
theorem impl_cap (n : Int) (w : World) : Calls Tryz.prog 244 #[.int .i64 n] w fun e w' => e = .returned (.bool (capB n)) ∧ w' = w := by
  by_cases h1 : n = 4
  · subst h1
    go_enter Tryz.func244, Tryz.ntmps244
    go_wp2
    go_ret
    exact ⟨rfl, rfl⟩
  by_cases h2 : n = 8
  · subst h2
    go_enter Tryz.func244, Tryz.ntmps244
    go_wp2
    go_ret
    exact ⟨rfl, rfl⟩
  have e1 : (n == 4) = false := by rw [beq_eq_false_iff_ne]; exact h1
  have e2 : (n == 8) = false := by rw [beq_eq_false_iff_ne]; exact h2
  clear h1 h2
  go_enter Tryz.func244, Tryz.ntmps244
  go_wp2
  go_ret
  exact ⟨ret_bool (by simp [capB, e1, e2]), rfl⟩
theorem impl_time (n : Int) (w : World) : Calls Tryz.prog 218 #[.int .i64 n] w fun e w' => e = .returned (.bool (decide (0 ≤ n ∧ n ≤ 1000000))) ∧ w' = w := by
  by_cases h1 : 0 ≤ n
  · go_enter Tryz.func218, Tryz.ntmps218
    go_wp2
    go_ret
    exact ⟨ret_bool (by simp [h1]), rfl⟩
  · go_enter Tryz.func218, Tryz.ntmps218
    go_wp2
    go_ret
    exact ⟨ret_bool (by simp; omega), rfl⟩
theorem impl_group (n : Int) (w : World) : Calls Tryz.prog 146 #[.int .i64 n] w fun e w' => e = .returned (.bool (decide (1 ≤ n ∧ n ≤ 9))) ∧ w' = w := by
  by_cases h1 : 1 ≤ n
  · go_enter Tryz.func146, Tryz.ntmps146
    go_wp2
    go_ret
    exact ⟨ret_bool (by simp [h1]), rfl⟩
  · go_enter Tryz.func146, Tryz.ntmps146
    go_wp2
    go_ret
    exact ⟨ret_bool (by simp; omega), rfl⟩
theorem impl_groupOf (g a : Int) (w : World) : Calls Tryz.prog 201 #[.agg #[.int .i64 g, .int .i64 a]] w fun e w' => e = .returned (.int .i64 g) ∧ Below w.heap.size w w' := by
  go_enter Tryz.func201, Tryz.ntmps201
  go_wp2
  go_ret
  exact ⟨rfl, (Below.refl _ _).alloc (Nat.le_refl _) _⟩
end Go.Proofs.YtneiihikcnjglaaGreatDoor
