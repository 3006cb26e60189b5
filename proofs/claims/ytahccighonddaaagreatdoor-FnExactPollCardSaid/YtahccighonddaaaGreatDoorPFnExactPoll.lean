/- Poll of the program answers as the specification's, at every fabric, group, ring, most and looseness, field by field; it writes into no argument and keeps nothing of one, and its answer owns its memory, behind its own guard -/
import Derived.Test.YtahccighonddaaaGreatDoorLawPollAll
import Derived.Test.YtahccighonddaaaGreatDoorFabArg
import Derived.Test.YtahccighonddaaaGreatDoorErrsLaid
import Derived.Test.YtahccighonddaaaGreatDoorVars
import Derived.Test.YtahccighonddaaaGreatDoorTabs
import Derived.Test.YtahccighonddaaaGreatDoorCards
import Derived.Test.YtahccighonddaaaGreatDoorTie
import Derived.LaidLaws
import Derived.LaidHandle
import Derived.JoinedOf
import Derived.Stop.Joined
import Derived.SevenTiedAt
import Derived.ProofKit
import Derived.OpenShut
import Derived.ShutString
import Derived.ChangeOld
import Derived.Below
namespace Go.Proofs.YtahccighonddaaaGreatDoor.fnExactPoll
open Go.ChangeShapes Go.WideShapes Go.ChangeAt Go.RowKit
open Go.ChangeMaps (open_string shut_string)
set_option linter.unusedVariables false

theorem own : ownKnob Tryz.prog.godebug = none := by kernel_rfl
theorem laidOut : laidOutB Tryz.prog = true := by kernel_rfl
theorem g_errNotRight : Tryz.prog.globalNamed "loop.example/g00643/impl.errNotRight" = some 0 := by kernel_rfl
theorem t_errNotRight : (Tryz.prog.globals[0]?).map (·.type) = some 77 := by kernel_rfl
theorem g_errFenced : Tryz.prog.globalNamed "loop.example/g00643/impl.errFenced" = some 3 := by kernel_rfl
theorem t_errFenced : (Tryz.prog.globals[3]?).map (·.type) = some 77 := by kernel_rfl
theorem g_errNoRing : Tryz.prog.globalNamed "loop.example/g00643/impl.errNoRing" = some 1 := by kernel_rfl
theorem t_errNoRing : (Tryz.prog.globals[1]?).map (·.type) = some 77 := by kernel_rfl
theorem g_errState : Tryz.prog.globalNamed "loop.example/g00643/impl.errState" = some 4 := by kernel_rfl
theorem t_errState : (Tryz.prog.globals[4]?).map (·.type) = some 77 := by kernel_rfl
theorem g_errNoRoom : Tryz.prog.globalNamed "loop.example/g00643/impl.errNoRoom" = some 2 := by kernel_rfl
theorem t_errNoRoom : (Tryz.prog.globals[2]?).map (·.type) = some 77 := by kernel_rfl
theorem g_errNoneLeft : Tryz.prog.globalNamed "loop.example/g00643/impl.errNoneLeft" = some 5 := by kernel_rfl
theorem t_errNoneLeft : (Tryz.prog.globals[5]?).map (·.type) = some 77 := by kernel_rfl
/-- What the row's list gives: the data alone. -/
theorem data_of_laid {W : World} (h : laidMetH Tryz.prog Rows.fnExactPollRow.laid W) : laidMet Tryz.prog [("unicode/utf8.acceptRanges", Rows.laid_unicode_utf8_acceptRanges), ("loop.example/g00643/impl.errNotRight", Rows.laid_loop_example_g00643_impl_errNotRight), ("loop.example/g00643/impl.errFenced", Rows.laid_loop_example_g00643_impl_errFenced), ("loop.example/g00643/impl.errNoRing", Rows.laid_loop_example_g00643_impl_errNoRing), ("loop.example/g00643/impl.errState", Rows.laid_loop_example_g00643_impl_errState), ("loop.example/g00643/impl.errNoRoom", Rows.laid_loop_example_g00643_impl_errNoRoom), ("loop.example/g00643/impl.errNoneLeft", Rows.laid_loop_example_g00643_impl_errNoneLeft), ("unicode/utf8.first", Rows.laid_unicode_utf8_first)] W := by
  have h' : laidMet Tryz.prog [("unicode/utf8.acceptRanges", Rows.laid_unicode_utf8_acceptRanges), ("loop.example/g00643/impl.errNotRight", Rows.laid_loop_example_g00643_impl_errNotRight), ("loop.example/g00643/impl.errFenced", Rows.laid_loop_example_g00643_impl_errFenced), ("loop.example/g00643/impl.errNoRing", Rows.laid_loop_example_g00643_impl_errNoRing), ("loop.example/g00643/impl.errState", Rows.laid_loop_example_g00643_impl_errState), ("loop.example/g00643/impl.errNoRoom", Rows.laid_loop_example_g00643_impl_errNoRoom), ("loop.example/g00643/impl.errNoneLeft", Rows.laid_loop_example_g00643_impl_errNoneLeft), ("unicode/utf8.first", Rows.laid_unicode_utf8_first)] W ∧ handlesMet Tryz.prog _ W := h
  exact h'.1
theorem errs_of_laid {W : World} (h : laidMetH Tryz.prog Rows.fnExactPollRow.laid W) : ∃ aN aF aR aS aM aL, Errs aN aF aR aS aM aL W ∧ W.var? Tryz.prog "loop.example/g00643/impl.errNotRight" = some #[.iface 310 (.pointer (some aN))] ∧ W.var? Tryz.prog "loop.example/g00643/impl.errFenced" = some #[.iface 310 (.pointer (some aF))] ∧ W.var? Tryz.prog "loop.example/g00643/impl.errNoRing" = some #[.iface 310 (.pointer (some aR))] ∧ W.var? Tryz.prog "loop.example/g00643/impl.errState" = some #[.iface 310 (.pointer (some aS))] ∧ W.var? Tryz.prog "loop.example/g00643/impl.errNoRoom" = some #[.iface 310 (.pointer (some aM))] ∧ W.var? Tryz.prog "loop.example/g00643/impl.errNoneLeft" = some #[.iface 310 (.pointer (some aL))] := by
  have h' : laidMet Tryz.prog [("unicode/utf8.acceptRanges", Rows.laid_unicode_utf8_acceptRanges), ("loop.example/g00643/impl.errNotRight", Rows.laid_loop_example_g00643_impl_errNotRight), ("loop.example/g00643/impl.errFenced", Rows.laid_loop_example_g00643_impl_errFenced), ("loop.example/g00643/impl.errNoRing", Rows.laid_loop_example_g00643_impl_errNoRing), ("loop.example/g00643/impl.errState", Rows.laid_loop_example_g00643_impl_errState), ("loop.example/g00643/impl.errNoRoom", Rows.laid_loop_example_g00643_impl_errNoRoom), ("loop.example/g00643/impl.errNoneLeft", Rows.laid_loop_example_g00643_impl_errNoneLeft), ("unicode/utf8.first", Rows.laid_unicode_utf8_first)] W ∧ handlesMet Tryz.prog _ W := h
  exact errs_of (h'.1.tail) (type_of_handle h'.2 (d := Rows.laid_errors_errorType) (List.mem_singleton.2 rfl) rfl rfl)

theorem band {a b : Bool} (h : a = true) (k : b = true) : (a && b) = true := by rw [h, k]; rfl
theorem j_maps : mapsRowed Tryz.prog = true := by kernel_rfl
theorem j_inPlace : (Rows.fnExactPollRow.inPlace == Tryz.prog.inPlace 5) = true := by kernel_rfl
theorem j_unf : (Rows.fnExactPollRow.unfollowed == Tryz.prog.unfollowed 5) = true := by kernel_rfl
theorem j_rec : (Rows.fnExactPollRow.recurses == Tryz.prog.recurses 5) = true := by kernel_rfl
theorem j_named : (Rows.fnExactPollRow.named == Tryz.prog.varsNamed 5) = true := by kernel_rfl
theorem j_plain : (Rows.fnExactPollRow.plainKeys == Tryz.prog.plainKeys) = true := by kernel_rfl
theorem j_heard : Tryz.prog.stopsHeard = true := by kernel_rfl
theorem j_enter : Tryz.prog.mayEnter = true := by kernel_rfl
theorem j_make : (Tryz.prog.make == some Rows.fnExactPollRow.make) = true := by kernel_rfl
theorem j_fn : Tryz.prog.funcNamed "loop.example/g00643/laws.FnExactPoll" = some 5 := by kernel_rfl
theorem c_wf : Rows.fnExactPollRow.wfByText (OpenSpec.ofChange Rows.fnExactPollSpec) = true := by kernel_rfl
theorem c_main : Tryz.prog.mainIs = some (Rows.fnExactPollCard.stood.harness.1, Rows.fnExactPollCard.stood.harness.2.toList) := by kernel_rfl
theorem c_looks : Rows.fnExactPollCard.stood.looks = Tryz.prog.looks [] := by kernel_rfl
theorem c_goes : false = Rows.fnExactPollRow.goesBy Tryz.prog := by kernel_rfl
end Go.Proofs.YtahccighonddaaaGreatDoor.fnExactPoll
namespace Go.Proofs.YtahccighonddaaaGreatDoor
#print axioms fnExactPoll_holds

#print axioms fnExactPoll_card
end Go.Proofs.YtahccighonddaaaGreatDoor
