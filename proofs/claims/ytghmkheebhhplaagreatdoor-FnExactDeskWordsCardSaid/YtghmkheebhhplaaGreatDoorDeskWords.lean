/- The words of the desk. -/
import Derived.Test.YtghmkheebhhplaaGreatDoorCopy
import Derived.Test.YtghmkheebhhplaaGreatDoorAppendMore
import Derived.Test.YtghmkheebhhplaaGreatDoorLawRing2
import Derived.Deep.WholeRow
import Derived.Laws.EntriesVeiled
namespace Go.Proofs.YtghmkheebhhplaaGreatDoor
open Go.RowKit
set_option linter.unusedSimpArgs false
set_option linter.unusedVariables false

def deskWords : List ByteArray := [⟨#[97, 98, 111, 114, 116]⟩, ⟨#[98, 101, 103, 105, 110]⟩, ⟨#[99, 111, 109, 109, 105, 116]⟩, ⟨#[104, 101, 108, 112]⟩, ⟨#[105, 110, 105, 116]⟩, ⟨#[106, 111, 105, 110]⟩, ⟨#[108, 101, 97, 118, 101]⟩, ⟨#[108, 111, 111, 115, 101]⟩, ⟨#[112, 111, 108, 108]⟩, ⟨#[115, 101, 110, 100]⟩, ⟨#[116, 105, 99, 107]⟩]
def deskTasks : List Value := .string ⟨#[97, 98, 111, 114, 116]⟩ :: .int .i64 2 :: .bool false :: .func (.func 12) #[] #[] :: .string ⟨#[98, 101, 103, 105, 110]⟩ :: .int .i64 2 :: .bool false :: .func (.func 13) #[] #[] :: .string ⟨#[99, 111, 109, 109, 105, 116]⟩ :: .int .i64 2 :: .bool false :: .func (.func 14) #[] #[] :: .string ⟨#[104, 101, 108, 112]⟩ :: .int .i64 0 :: .bool false :: .func (.func 15) #[] #[] :: .string ⟨#[105, 110, 105, 116]⟩ :: .int .i64 1 :: .bool false :: .func (.func 16) #[] #[] :: .string ⟨#[106, 111, 105, 110]⟩ :: .int .i64 2 :: .bool false :: .func (.func 17) #[] #[] :: .string ⟨#[108, 101, 97, 118, 101]⟩ :: .int .i64 2 :: .bool false :: .func (.func 18) #[] #[] :: .string ⟨#[108, 111, 111, 115, 101]⟩ :: .int .i64 2 :: .bool false :: .func (.func 19) #[] #[] :: .string ⟨#[112, 111, 108, 108]⟩ :: .int .i64 2 :: .bool false :: .func (.func 20) #[] #[] :: .string ⟨#[115, 101, 110, 100]⟩ :: .int .i64 3 :: .bool true :: .func (.func 21) #[] #[] :: .string ⟨#[116, 105, 99, 107]⟩ :: .int .i64 1 :: .bool false :: .func (.func 22) #[] #[] :: []
theorem info_tasks : (Tryz.prog.info? 30).map (·.size) = some deskTasks.toArray.size := by kernel_rfl
set_option maxRecDepth 100000 in
set_option maxHeartbeats 2000000 in
theorem spec_DeskWords (w : World) : Calls Tryz.prog 4 #[] w fun x w' => ∃ a c, x = .returned (.slice a 11 c) ∧ w'.ownsRow w.heap.size 9 1 (.slice a 11 c) 11 (deskWords.map Value.string) ∧ Below w.heap.size w w' := by
  go_enter Tryz.func4, Tryz.ntmps4
  go_wp2
  go_ret
  exact ⟨some ⟨w.heap.size, 0, none⟩, 11, rfl, ⟨rfl, .inr ⟨w.heap.size, 11, _, rfl, Nat.le_refl _, heap_alloc_new _ _, by omega, by unfold maxLen; omega, rfl, rfl⟩⟩, (Below.refl _ _).alloc (Nat.le_refl _) _⟩
end Go.Proofs.YtghmkheebhhplaaGreatDoor
