/- Contracts for the draws of chapter 2, as far as the laws need them. -/
import Derived.Test.YtbbaghlmialaoaaGreatDoorSrc
import Derived.Test.YtbbaghlmialaoaaGreatDoorCopy
namespace Go.Proofs.YtbbaghlmialaoaaGreatDoor
open Go.RowKit

/-- The numbers at some limit. -/
def edges : List Int := [0, 1, -1, 2, 1000, 1001, 2147483648, 2147483647, -2147483648, 4611686018427387904, 9223372036854775807, -9223372036854775808, 1000000, 1000001]
def inI64 (v : Int) : Prop := -9223372036854775808 ≤ v ∧ v ≤ 9223372036854775807
theorem edge_at (r : Nat) (h : r < 14) : ∃ v : Int, (edges.map (Value.int .i64)).toArray[r]? = some (.int .i64 v) ∧ Hid (inI64 v) := by
  rcases (show r = 0 ∨ r = 1 ∨ r = 2 ∨ r = 3 ∨ r = 4 ∨ r = 5 ∨ r = 6 ∨ r = 7 ∨ r = 8 ∨ r = 9 ∨ r = 10 ∨ r = 11 ∨ r = 12 ∨ r = 13 by omega) with e | e | e | e | e | e | e | e | e | e | e | e | e | e <;> subst e <;> exact ⟨_, rfl, by constructor <;> decide⟩

/-- Zero bytes as a text. -/
theorem conv_zeros (w : World) (Z : List Value) (n : Nat) (hZ : Z = List.replicate n (.int .u8 0)) (hn : n ≤ 1048576) :
    (convert 22 9 (.slice (some ⟨w.heap.size, 0, none⟩) n n)).run Tryz.prog (w.alloc (.cells Z.toArray 5)) = .ok (.string ⟨(List.replicate n (0 : UInt8)).toArray⟩) (w.alloc (.cells Z.toArray 5)) := by
  have hc : Z = (List.replicate n (0 : UInt8)).map bv := by rw [hZ]; simp [bv]
  exact conv_own (P := Tryz.prog) (dst := 9) Tryz.underlying22 Tryz.underlying5 Tryz.underlying9
    (owns_of_row (w := w.alloc (.cells Z.toArray 5)) (n := n) (Nat.le_refl w.heap.size) (heap_alloc_new w _) hc (by simp) (by unfold maxLen; omega))
theorem mk_zeros (n : Nat) (x : Int) (hx : x = n) (hn : n ≤ 1048576) : ∃ Z : List Value, Hid (Z = List.replicate n (.int .u8 0)) ∧ ∀ u : World, (Instr.makeSlice 22 (.int .i64 x) (.int .i64 x)).run Tryz.prog u =
      .ok (.slice (some ⟨u.heap.size, 0, none⟩) n n) (u.alloc (.cells Z.toArray 5)) := by
  obtain ⟨i0, hi, hz0, hz1, hz2⟩ := info_parts info_u8
  subst hx
  refine ⟨(madeCells #[.int .u8 0] n).toList, show _ = _ from toList_madeCells_one _ _, fun u => ?_⟩
  have h := run_make (P := Tryz.prog) u 22 5 i0 (.int .u8 0) Tryz.underlying22 hi hz0 .i64 .i64 (n : Int) (n : Int) (by omega) (Int.le_refl _) (by rw [hz2]; omega) (by omega)
  simpa [hz1, Value.cells] using h

end Go.Proofs.YtbbaghlmialaoaaGreatDoor
