/- The program's words of the desk. -/
import Derived.Test.YtghmkheebhhplaaGreatDoorDeskWords
import Derived.Great.BuildSlice
import Derived.Laws.Rows
namespace Go.Proofs.YtghmkheebhhplaaGreatDoor
open Go.RowKit
set_option linter.unusedSimpArgs false
set_option linter.unusedVariables false
set_option maxRecDepth 100000 in
set_option maxHeartbeats 2000000 in
theorem impl_tasks (w : World) : Calls Tryz.prog 9 #[] w fun x w' => x = .returned (.agg deskTasks.toArray) ∧ Below w.heap.size w w' := by
  go_enter Tryz.func9, Tryz.ntmps9
  go_wp2_with (first
    | (refine wpList_buildTo rfl 29 _ rfl (some 1) rfl #[.string ⟨#[97, 98, 111, 114, 116]⟩, .int .i64 2, .bool false, .func (.func 12) #[] #[]] (by as_aux_lemma => kernel_rfl) ?_)
    | (refine wpList_buildTo rfl 29 _ rfl (some 2) rfl #[.string ⟨#[98, 101, 103, 105, 110]⟩, .int .i64 2, .bool false, .func (.func 13) #[] #[]] (by as_aux_lemma => kernel_rfl) ?_)
    | (refine wpList_buildTo rfl 29 _ rfl (some 3) rfl #[.string ⟨#[99, 111, 109, 109, 105, 116]⟩, .int .i64 2, .bool false, .func (.func 14) #[] #[]] (by as_aux_lemma => kernel_rfl) ?_)
    | (refine wpList_buildTo rfl 29 _ rfl (some 4) rfl #[.string ⟨#[104, 101, 108, 112]⟩, .int .i64 0, .bool false, .func (.func 15) #[] #[]] (by as_aux_lemma => kernel_rfl) ?_)
    | (refine wpList_buildTo rfl 29 _ rfl (some 5) rfl #[.string ⟨#[105, 110, 105, 116]⟩, .int .i64 1, .bool false, .func (.func 16) #[] #[]] (by as_aux_lemma => kernel_rfl) ?_)
    | (refine wpList_buildTo rfl 29 _ rfl (some 6) rfl #[.string ⟨#[106, 111, 105, 110]⟩, .int .i64 2, .bool false, .func (.func 17) #[] #[]] (by as_aux_lemma => kernel_rfl) ?_)
    | (refine wpList_buildTo rfl 29 _ rfl (some 7) rfl #[.string ⟨#[108, 101, 97, 118, 101]⟩, .int .i64 2, .bool false, .func (.func 18) #[] #[]] (by as_aux_lemma => kernel_rfl) ?_)
    | (refine wpList_buildTo rfl 29 _ rfl (some 8) rfl #[.string ⟨#[108, 111, 111, 115, 101]⟩, .int .i64 2, .bool false, .func (.func 19) #[] #[]] (by as_aux_lemma => kernel_rfl) ?_)
    | (refine wpList_buildTo rfl 29 _ rfl (some 9) rfl #[.string ⟨#[112, 111, 108, 108]⟩, .int .i64 2, .bool false, .func (.func 20) #[] #[]] (by as_aux_lemma => kernel_rfl) ?_)
    | (refine wpList_buildTo rfl 29 _ rfl (some 10) rfl #[.string ⟨#[115, 101, 110, 100]⟩, .int .i64 3, .bool true, .func (.func 21) #[] #[]] (by as_aux_lemma => kernel_rfl) ?_)
    | (refine wpList_buildTo rfl 29 _ rfl (some 11) rfl #[.string ⟨#[116, 105, 99, 107]⟩, .int .i64 1, .bool false, .func (.func 22) #[] #[]] (by as_aux_lemma => kernel_rfl) ?_)
    | (refine wpList_buildTo rfl 30 _ rfl (some 12) rfl deskTasks.toArray (by as_aux_lemma => kernel_rfl) ?_)
    | (refine wpList_store_rowTo rfl 30 _ _ rfl rfl w.heap.size deskTasks.toArray (by as_aux_lemma => kernel_rfl) (by as_aux_lemma => kernel_rfl) 30 _ (heap_alloc_last w _) info_tasks (by as_aux_lemma => kernel_rfl) (by as_aux_lemma => kernel_rfl) ?_))
  rw [World.setRow_alloc_new]
  refine bodyPost_ret (v := .agg deskTasks.toArray) ?_ rfl ⟨rfl, (Below.refl _ _).alloc (Nat.le_refl _) _⟩
  exact results_cell_row (P := Tryz.prog) (t := 30) (cs := deskTasks.toArray) (fr := (0, 0)) Tryz.results9 _ _ w.heap.size _ (by as_aux_lemma => kernel_rfl) (heap_alloc_last w _) Tryz.underlying30 rfl info_tasks
end Go.Proofs.YtghmkheebhhplaaGreatDoor
