/- DeskWords of the program answers as the specification's, field by field; its answer owns its memory, behind another call too (the library's tables, package errors' own variable and the program's six errors as they are laid) -/
import Derived.Test.YtghmkheebhhplaaGreatDoorLawDeskWords
import Derived.Test.YtghmkheebhhplaaGreatDoorVars0
import Derived.Lib.LaidU8
import Derived.Test.YtghmkheebhhplaaGreatDoorCards
import Derived.Test.YtghmkheebhhplaaGreatDoorTie
import Derived.LaidLaws
import Derived.LaidHandle
import Derived.JoinedOf
import Derived.Stop.Joined
import Derived.SevenTiedAt
import Derived.ProofKit
import Derived.OpenShut
import Derived.ShutString
import Derived.ChangeOld
import Derived.Below
namespace Go.Proofs.YtghmkheebhhplaaGreatDoor.fnExactDeskWords
open Go.ChangeShapes Go.WideShapes Go.ChangeAt Go.RowKit
open Go.ChangeMaps (open_string shut_string)
set_option linter.unusedVariables false

theorem own : ownKnob Tryz.prog.godebug = none := by kernel_rfl
theorem laidOut : laidOutB Tryz.prog = true := by kernel_rfl
theorem g_errNotRight : Tryz.prog.globalNamed "loop.example/g00643/impl.errNotRight" = some 0 := by kernel_rfl
theorem t_errNotRight : (Tryz.prog.globals[0]?).map (·.type) = some 66 := by kernel_rfl
theorem g_errFenced : Tryz.prog.globalNamed "loop.example/g00643/impl.errFenced" = some 4 := by kernel_rfl
theorem t_errFenced : (Tryz.prog.globals[4]?).map (·.type) = some 66 := by kernel_rfl
theorem g_errNoRing : Tryz.prog.globalNamed "loop.example/g00643/impl.errNoRing" = some 3 := by kernel_rfl
theorem t_errNoRing : (Tryz.prog.globals[3]?).map (·.type) = some 66 := by kernel_rfl
theorem g_errState : Tryz.prog.globalNamed "loop.example/g00643/impl.errState" = some 1 := by kernel_rfl
theorem t_errState : (Tryz.prog.globals[1]?).map (·.type) = some 66 := by kernel_rfl
theorem g_errNoRoom : Tryz.prog.globalNamed "loop.example/g00643/impl.errNoRoom" = some 2 := by kernel_rfl
theorem t_errNoRoom : (Tryz.prog.globals[2]?).map (·.type) = some 66 := by kernel_rfl
theorem g_errNoneLeft : Tryz.prog.globalNamed "loop.example/g00643/impl.errNoneLeft" = some 5 := by kernel_rfl
theorem t_errNoneLeft : (Tryz.prog.globals[5]?).map (·.type) = some 66 := by kernel_rfl
/-- What the row's list gives: the data alone. -/
theorem data_of_laid {W : World} (h : laidMetH Tryz.prog Rows.fnExactDeskWordsRow.laid W) : laidMet Tryz.prog [("math/bits.deBruijn32tab", Rows.laid_math_bits_deBruijn32tab), ("math/bits.deBruijn64tab", Rows.laid_math_bits_deBruijn64tab), ("internal/strconv.uint64pow10", Rows.laid_internal_strconv_uint64pow10), ("unicode/utf8.acceptRanges", Rows.laid_unicode_utf8_acceptRanges), ("loop.example/g00643/impl.errNotRight", Rows.laid_loop_example_g00643_impl_errNotRight), ("loop.example/g00643/impl.errFenced", Rows.laid_loop_example_g00643_impl_errFenced), ("loop.example/g00643/impl.errNoRing", Rows.laid_loop_example_g00643_impl_errNoRing), ("loop.example/g00643/impl.errState", Rows.laid_loop_example_g00643_impl_errState), ("loop.example/g00643/impl.errNoRoom", Rows.laid_loop_example_g00643_impl_errNoRoom), ("loop.example/g00643/impl.errNoneLeft", Rows.laid_loop_example_g00643_impl_errNoneLeft), ("unicode/utf8.first", Rows.laid_unicode_utf8_first)] W := by
  have h' : laidMet Tryz.prog [("math/bits.deBruijn32tab", Rows.laid_math_bits_deBruijn32tab), ("math/bits.deBruijn64tab", Rows.laid_math_bits_deBruijn64tab), ("internal/strconv.uint64pow10", Rows.laid_internal_strconv_uint64pow10), ("unicode/utf8.acceptRanges", Rows.laid_unicode_utf8_acceptRanges), ("loop.example/g00643/impl.errNotRight", Rows.laid_loop_example_g00643_impl_errNotRight), ("loop.example/g00643/impl.errFenced", Rows.laid_loop_example_g00643_impl_errFenced), ("loop.example/g00643/impl.errNoRing", Rows.laid_loop_example_g00643_impl_errNoRing), ("loop.example/g00643/impl.errState", Rows.laid_loop_example_g00643_impl_errState), ("loop.example/g00643/impl.errNoRoom", Rows.laid_loop_example_g00643_impl_errNoRoom), ("loop.example/g00643/impl.errNoneLeft", Rows.laid_loop_example_g00643_impl_errNoneLeft), ("unicode/utf8.first", Rows.laid_unicode_utf8_first)] W ∧ handlesMet Tryz.prog _ W := h
  exact h'.1
theorem err_errNotRight {W : World} (h : laidMetH Tryz.prog Rows.fnExactDeskWordsRow.laid W) : ∃ a : Addr, W.var? Tryz.prog "loop.example/g00643/impl.errNotRight" = some #[.iface 303 (.pointer (some a))] := by
  obtain ⟨a, s, hv, _⟩ := laid_sentinel (data_of_laid h).tail.tail.tail.tail g_errNotRight t_errNotRight Tryz.underlying66 errRow Tryz.underlying303 Tryz.underlying327 rfl rfl Tryz.underlying9 errCells strCells1
  exact ⟨a, hv⟩
theorem cell_errNotRight {W : World} {a : Addr} (hv : W.var? Tryz.prog "loop.example/g00643/impl.errNotRight" = some #[.iface 303 (.pointer (some a))]) : W.cell? ⟨0, 0, none⟩ = some (.iface 303 (.pointer (some a))) := by
  simpa using World.var?_cell g_errNotRight hv 0
theorem err_errFenced {W : World} (h : laidMetH Tryz.prog Rows.fnExactDeskWordsRow.laid W) : ∃ a : Addr, W.var? Tryz.prog "loop.example/g00643/impl.errFenced" = some #[.iface 303 (.pointer (some a))] := by
  obtain ⟨a, s, hv, _⟩ := laid_sentinel (data_of_laid h).tail.tail.tail.tail.tail g_errFenced t_errFenced Tryz.underlying66 errRow Tryz.underlying303 Tryz.underlying327 rfl rfl Tryz.underlying9 errCells strCells1
  exact ⟨a, hv⟩
theorem cell_errFenced {W : World} {a : Addr} (hv : W.var? Tryz.prog "loop.example/g00643/impl.errFenced" = some #[.iface 303 (.pointer (some a))]) : W.cell? ⟨4, 0, none⟩ = some (.iface 303 (.pointer (some a))) := by
  simpa using World.var?_cell g_errFenced hv 0
theorem err_errNoRing {W : World} (h : laidMetH Tryz.prog Rows.fnExactDeskWordsRow.laid W) : ∃ a : Addr, W.var? Tryz.prog "loop.example/g00643/impl.errNoRing" = some #[.iface 303 (.pointer (some a))] := by
  obtain ⟨a, s, hv, _⟩ := laid_sentinel (data_of_laid h).tail.tail.tail.tail.tail.tail g_errNoRing t_errNoRing Tryz.underlying66 errRow Tryz.underlying303 Tryz.underlying327 rfl rfl Tryz.underlying9 errCells strCells1
  exact ⟨a, hv⟩
theorem cell_errNoRing {W : World} {a : Addr} (hv : W.var? Tryz.prog "loop.example/g00643/impl.errNoRing" = some #[.iface 303 (.pointer (some a))]) : W.cell? ⟨3, 0, none⟩ = some (.iface 303 (.pointer (some a))) := by
  simpa using World.var?_cell g_errNoRing hv 0
theorem err_errState {W : World} (h : laidMetH Tryz.prog Rows.fnExactDeskWordsRow.laid W) : ∃ a : Addr, W.var? Tryz.prog "loop.example/g00643/impl.errState" = some #[.iface 303 (.pointer (some a))] := by
  obtain ⟨a, s, hv, _⟩ := laid_sentinel (data_of_laid h).tail.tail.tail.tail.tail.tail.tail g_errState t_errState Tryz.underlying66 errRow Tryz.underlying303 Tryz.underlying327 rfl rfl Tryz.underlying9 errCells strCells1
  exact ⟨a, hv⟩
theorem cell_errState {W : World} {a : Addr} (hv : W.var? Tryz.prog "loop.example/g00643/impl.errState" = some #[.iface 303 (.pointer (some a))]) : W.cell? ⟨1, 0, none⟩ = some (.iface 303 (.pointer (some a))) := by
  simpa using World.var?_cell g_errState hv 0
theorem err_errNoRoom {W : World} (h : laidMetH Tryz.prog Rows.fnExactDeskWordsRow.laid W) : ∃ a : Addr, W.var? Tryz.prog "loop.example/g00643/impl.errNoRoom" = some #[.iface 303 (.pointer (some a))] := by
  obtain ⟨a, s, hv, _⟩ := laid_sentinel (data_of_laid h).tail.tail.tail.tail.tail.tail.tail.tail g_errNoRoom t_errNoRoom Tryz.underlying66 errRow Tryz.underlying303 Tryz.underlying327 rfl rfl Tryz.underlying9 errCells strCells1
  exact ⟨a, hv⟩
theorem cell_errNoRoom {W : World} {a : Addr} (hv : W.var? Tryz.prog "loop.example/g00643/impl.errNoRoom" = some #[.iface 303 (.pointer (some a))]) : W.cell? ⟨2, 0, none⟩ = some (.iface 303 (.pointer (some a))) := by
  simpa using World.var?_cell g_errNoRoom hv 0
theorem err_errNoneLeft {W : World} (h : laidMetH Tryz.prog Rows.fnExactDeskWordsRow.laid W) : ∃ a : Addr, W.var? Tryz.prog "loop.example/g00643/impl.errNoneLeft" = some #[.iface 303 (.pointer (some a))] := by
  obtain ⟨a, s, hv, _⟩ := laid_sentinel (data_of_laid h).tail.tail.tail.tail.tail.tail.tail.tail.tail g_errNoneLeft t_errNoneLeft Tryz.underlying66 errRow Tryz.underlying303 Tryz.underlying327 rfl rfl Tryz.underlying9 errCells strCells1
  exact ⟨a, hv⟩
theorem cell_errNoneLeft {W : World} {a : Addr} (hv : W.var? Tryz.prog "loop.example/g00643/impl.errNoneLeft" = some #[.iface 303 (.pointer (some a))]) : W.cell? ⟨5, 0, none⟩ = some (.iface 303 (.pointer (some a))) := by
  simpa using World.var?_cell g_errNoneLeft hv 0

set_option maxRecDepth 100000 in
theorem lifted (os : Os) (started : os.Started) (H : Type) (enc : TypeId × Value → H) :
    ReturnsInHanded {} Tryz.checked os 3 .any (fun w args => (Rows.fnExactDeskWordsSpec.pre enc Tryz.prog Tryz.f3 [] false w args ∧ laidMetH Tryz.prog Rows.fnExactDeskWordsRow.laid w) ∧ sizedMet enc Tryz.prog Tryz.f3 (OpenSpec.ofChange Rows.fnExactDeskWordsSpec) false w args)
      (Rows.fnExactDeskWordsSpec.post enc Tryz.prog Tryz.f3 false true false false) := by
  refine returnsInHanded_of_change_and (C := Tryz.checked) (X := fun w _ => laidMetH Tryz.prog Rows.fnExactDeskWordsRow.laid w) (fun _ _ _ hh h => h.of_heap hh) own started (by kernel_rfl) Tryz.func3
    (ChangeSpec.witness_at (enc := enc) (C := Tryz.checked) (os := os) (X := fun w _ => laidMetH Tryz.prog Rows.fnExactDeskWordsRow.laid w) false
      ({ (withErr 5 [110, 111, 116, 104, 105, 110, 103, 32, 105, 115, 32, 108, 101, 102, 116, 32, 116, 111, 32, 98, 101, 32, 115, 97, 105, 100] (withErr 2 [116, 104, 101, 114, 101, 32, 105, 115, 32, 110, 111, 32, 114, 111, 111, 109] (withErr 1 [119, 104, 97, 116, 32, 116, 104, 101, 32, 112, 114, 111, 100, 117, 99, 101, 114, 32, 104, 97, 115, 32, 111, 112, 101, 110, 32, 100, 111, 101, 115, 32, 110, 111, 116, 32, 102, 105, 116] (withErr 3 [116, 104, 101, 114, 101, 32, 105, 115, 32, 110, 111, 32, 115, 117, 99, 104, 32, 114, 105, 110, 103] (withErr 4 [116, 104, 101, 32, 112, 114, 111, 100, 117, 99, 101, 114, 32, 105, 115, 32, 110, 111, 116, 32, 104, 101, 97, 114, 100, 32, 98, 121, 32, 116, 104, 97, 116, 32, 101, 112, 111, 99, 104] (withErr 0 [119, 104, 97, 116, 32, 119, 97, 115, 32, 104, 97, 110, 100, 101, 100, 32, 105, 110, 32, 105, 115, 32, 110, 111, 116, 32, 114, 105, 103, 104, 116] (withCells 7 ((Lib.firstTab.map fun z => Value.int .u8 z).toArray) (withCells 8 ((([128, 191, 160, 191, 128, 159, 144, 191, 128, 143, 0, 0, 0, 0, 0, 0, 0, 0, 0, 0, 0, 0, 0, 0, 0, 0, 0, 0, 0, 0, 0, 0] : List Int).map (Value.int .u8)).toArray) (withCells 9 (#[.int .u64 1, .int .u64 10, .int .u64 100, .int .u64 1000, .int .u64 10000, .int .u64 100000, .int .u64 1000000, .int .u64 10000000, .int .u64 100000000, .int .u64 1000000000, .int .u64 10000000000, .int .u64 100000000000, .int .u64 1000000000000, .int .u64 10000000000000, .int .u64 100000000000000, .int .u64 1000000000000000, .int .u64 10000000000000000, .int .u64 100000000000000000, .int .u64 1000000000000000000, .int .u64 10000000000000000000]) (withCells 12 ((([0, 1, 56, 2, 57, 49, 28, 3, 61, 58, 42, 50, 38, 29, 17, 4, 62, 47, 59, 36, 45, 43, 51, 22, 53, 39, 33, 30, 24, 18, 12, 5, 63, 55, 48, 27, 60, 41, 37, 16, 46, 35, 44, 21, 52, 32, 23, 11, 54, 26, 40, 15, 34, 20, 31, 10, 25, 14, 19, 9, 13, 8, 7, 6] : List Int).map (Value.int .u8)).toArray) (withCells 11 ((([0, 1, 28, 2, 29, 14, 24, 3, 30, 22, 20, 15, 25, 17, 4, 8, 31, 27, 13, 23, 21, 19, 16, 7, 26, 12, 18, 6, 11, 5, 10, 9] : List Int).map (Value.int .u8)).toArray) (World.holding Tryz.prog os ⟨#[], #[], []⟩)))))))))))) with heap := (withErr 5 [110, 111, 116, 104, 105, 110, 103, 32, 105, 115, 32, 108, 101, 102, 116, 32, 116, 111, 32, 98, 101, 32, 115, 97, 105, 100] (withErr 2 [116, 104, 101, 114, 101, 32, 105, 115, 32, 110, 111, 32, 114, 111, 111, 109] (withErr 1 [119, 104, 97, 116, 32, 116, 104, 101, 32, 112, 114, 111, 100, 117, 99, 101, 114, 32, 104, 97, 115, 32, 111, 112, 101, 110, 32, 100, 111, 101, 115, 32, 110, 111, 116, 32, 102, 105, 116] (withErr 3 [116, 104, 101, 114, 101, 32, 105, 115, 32, 110, 111, 32, 115, 117, 99, 104, 32, 114, 105, 110, 103] (withErr 4 [116, 104, 101, 32, 112, 114, 111, 100, 117, 99, 101, 114, 32, 105, 115, 32, 110, 111, 116, 32, 104, 101, 97, 114, 100, 32, 98, 121, 32, 116, 104, 97, 116, 32, 101, 112, 111, 99, 104] (withErr 0 [119, 104, 97, 116, 32, 119, 97, 115, 32, 104, 97, 110, 100, 101, 100, 32, 105, 110, 32, 105, 115, 32, 110, 111, 116, 32, 114, 105, 103, 104, 116] (withCells 7 ((Lib.firstTab.map fun z => Value.int .u8 z).toArray) (withCells 8 ((([128, 191, 160, 191, 128, 159, 144, 191, 128, 143, 0, 0, 0, 0, 0, 0, 0, 0, 0, 0, 0, 0, 0, 0, 0, 0, 0, 0, 0, 0, 0, 0] : List Int).map (Value.int .u8)).toArray) (withCells 9 (#[.int .u64 1, .int .u64 10, .int .u64 100, .int .u64 1000, .int .u64 10000, .int .u64 100000, .int .u64 1000000, .int .u64 10000000, .int .u64 100000000, .int .u64 1000000000, .int .u64 10000000000, .int .u64 100000000000, .int .u64 1000000000000, .int .u64 10000000000000, .int .u64 100000000000000, .int .u64 1000000000000000, .int .u64 10000000000000000, .int .u64 100000000000000000, .int .u64 1000000000000000000, .int .u64 10000000000000000000]) (withCells 12 ((([0, 1, 56, 2, 57, 49, 28, 3, 61, 58, 42, 50, 38, 29, 17, 4, 62, 47, 59, 36, 45, 43, 51, 22, 53, 39, 33, 30, 24, 18, 12, 5, 63, 55, 48, 27, 60, 41, 37, 16, 46, 35, 44, 21, 52, 32, 23, 11, 54, 26, 40, 15, 34, 20, 31, 10, 25, 14, 19, 9, 13, 8, 7, 6] : List Int).map (Value.int .u8)).toArray) (withCells 11 ((([0, 1, 28, 2, 29, 14, 24, 3, 30, 22, 20, 15, 25, 17, 4, 8, 31, 27, 13, 23, 21, 19, 16, 7, 26, 12, 18, 6, 11, 5, 10, 9] : List Int).map (Value.int .u8)).toArray) (World.holding Tryz.prog os ⟨#[], #[], []⟩)))))))))))).heap.modify 6 (rowOf #[.iface 243 (.agg #[.pointer (some ⟨13, 66, none⟩)])]) } : World)
      #[] 8 rfl (by kernel_rfl) (by kernel_rfl) (by kernel_rfl) (by kernel_rfl) (by kernel_rfl) (laidMetH_of_parts (laidMet_of_run' 8 (by kernel_rfl) (by kernel_rfl)) (by kernel_rfl))) ?_
  intro W base args ds gs before hval0 hW hcnd _ hL _
  have hval : ∀ (j : Nat) t v, Tryz.f3.params[j]? = some t → args[j]? = some v → Value.okWide Tryz.prog W .any base t v := hval0
  have hW' := hW
  obtain ⟨p, q, hA0, hV, rfl, hfz, hnd⟩ := hW
  have hA : DataW.TrodAll enc Tryz.prog W 0 (fun _ => true) true Tryz.f3.params.toList args.toList ds p := hA0
  rw [Tryz.params3] at hA
  obtain ⟨hargs, rfl, rfl⟩ := trodAll_nil hA
  obtain rfl : args = #[] := by cases args; simp_all
  obtain ⟨a_errNotRight, hv_errNotRight⟩ := err_errNotRight hL
  obtain ⟨a_errFenced, hv_errFenced⟩ := err_errFenced hL
  obtain ⟨a_errNoRing, hv_errNoRing⟩ := err_errNoRing hL
  obtain ⟨a_errState, hv_errState⟩ := err_errState hL
  obtain ⟨a_errNoRoom, hv_errNoRoom⟩ := err_errNoRoom hL
  obtain ⟨a_errNoneLeft, hv_errNoneLeft⟩ := err_errNoneLeft hL
  obtain ⟨rfl, rfl⟩ := hV.unique (vars_cons enc g_errNotRight t_errNotRight Tryz.underlying66 hv_errNotRight trivial (vars_cons enc g_errFenced t_errFenced Tryz.underlying66 hv_errFenced trivial (vars_cons enc g_errState t_errState Tryz.underlying66 hv_errState trivial (vars_cons enc g_errNoRing t_errNoRing Tryz.underlying66 hv_errNoRing trivial (vars_cons enc g_errNoRoom t_errNoRoom Tryz.underlying66 hv_errNoRoom trivial (vars_cons enc g_errNoneLeft t_errNoneLeft Tryz.underlying66 hv_errNoneLeft trivial (vars_nil enc)))))))
  clear hA0 hval0
  refine (law_DeskWords W).mono fun e W' ⟨he, bel⟩ => ?_
  subst he
  exact ⟨_, rfl, _, _, _, [], _, _, hW', trodAll_mk1 (shut_bool Tryz.underlying4 _), trodAll_mk0, (vars_cons enc g_errNotRight t_errNotRight Tryz.underlying66 (var?_below hv_errNotRight bel) trivial (vars_cons enc g_errFenced t_errFenced Tryz.underlying66 (var?_below hv_errFenced bel) trivial (vars_cons enc g_errState t_errState Tryz.underlying66 (var?_below hv_errState bel) trivial (vars_cons enc g_errNoRing t_errNoRing Tryz.underlying66 (var?_below hv_errNoRing bel) trivial (vars_cons enc g_errNoRoom t_errNoRoom Tryz.underlying66 (var?_below hv_errNoRoom bel) trivial (vars_cons enc g_errNoneLeft t_errNoneLeft Tryz.underlying66 (var?_below hv_errNoneLeft bel) trivial (vars_nil enc))))))), bel.frame _, fun h => by cases h⟩

theorem band {a b : Bool} (h : a = true) (k : b = true) : (a && b) = true := by rw [h, k]; rfl
theorem j_maps : mapsRowed Tryz.prog = true := by kernel_rfl
theorem j_inPlace : (Rows.fnExactDeskWordsRow.inPlace == Tryz.prog.inPlace 3) = true := by kernel_rfl
theorem j_unf : (Rows.fnExactDeskWordsRow.unfollowed == Tryz.prog.unfollowed 3) = true := by kernel_rfl
theorem j_rec : (Rows.fnExactDeskWordsRow.recurses == Tryz.prog.recurses 3) = true := by kernel_rfl
theorem j_named : (Rows.fnExactDeskWordsRow.named == Tryz.prog.varsNamed 3) = true := by kernel_rfl
theorem j_plain : (Rows.fnExactDeskWordsRow.plainKeys == Tryz.prog.plainKeys) = true := by kernel_rfl
theorem j_heard : Tryz.prog.stopsHeard = true := by kernel_rfl
theorem j_enter : Tryz.prog.mayEnter = true := by kernel_rfl
theorem j_lift : (Rows.fnExactDeskWordsRow.lifted == Tryz.prog.liftsFinal) = true := by kernel_rfl
theorem j_make : (Tryz.prog.make == some Rows.fnExactDeskWordsRow.make) = true := by kernel_rfl
theorem j_fn : Tryz.prog.funcNamed "loop.example/g00643/laws.FnExactDeskWords" = some 3 := by kernel_rfl
theorem c_wf : Rows.fnExactDeskWordsRow.wfByText (OpenSpec.ofChange Rows.fnExactDeskWordsSpec) = true := by kernel_rfl
theorem c_main : Tryz.prog.mainIs = some (Rows.fnExactDeskWordsCard.stood.harness.1, Rows.fnExactDeskWordsCard.stood.harness.2.toList) := by kernel_rfl
theorem c_looks : Rows.fnExactDeskWordsCard.stood.looks = Tryz.prog.looks [] := by kernel_rfl
theorem c_goes : false = Rows.fnExactDeskWordsRow.goesBy Tryz.prog := by kernel_rfl
theorem closed : joinedFacts Tryz.prog 3 Tryz.f3 Rows.fnExactDeskWordsSpec Rows.fnExactDeskWordsRow = true := by
  unfold joinedFacts
  exact (band (band (band (band (band (band (band (band (band (band (band (band (band (band (band (band (band (band (band (band (band (band (band (band (band (band (band (band (band (band (band (by kernel_rfl) laidOut) j_maps) (by kernel_rfl)) (by kernel_rfl)) (by kernel_rfl)) (by kernel_rfl)) (by kernel_rfl)) (by kernel_rfl)) j_inPlace) j_unf) j_rec) j_named) (by kernel_rfl)) (by kernel_rfl)) (by kernel_rfl)) (by kernel_rfl)) (by kernel_rfl)) (by kernel_rfl)) (by kernel_rfl)) (by kernel_rfl)) (by kernel_rfl)) j_plain) (by kernel_rfl)) j_heard) j_enter) j_lift) j_make) (by kernel_rfl)) (by kernel_rfl)) (by kernel_rfl)) (by kernel_rfl))
theorem proved : Rows.FnExactDeskWordsSaid :=
  OpenClaim.holds_of_wide 3 Tryz.f3 rfl rfl rfl rfl rfl rfl rfl ⟨rfl, rfl, rfl, rfl, rfl⟩ rfl rfl rfl rfl rfl j_fn Tryz.func3 closed
    (of_decide_eq_true (by kernel_rfl)) (by unfold Func.isWrapper; first | (rw [if_pos (by decide +kernel)]; kernel_rfl) | (rw [if_neg (by decide +kernel)]; exact ⟨rfl, rfl⟩))
    (fun os started H enc _ => lifted os started H enc)
end Go.Proofs.YtghmkheebhhplaaGreatDoor.fnExactDeskWords
namespace Go.Proofs.YtghmkheebhhplaaGreatDoor
theorem fnExactDeskWords_holds : Rows.FnExactDeskWordsSaid := fnExactDeskWords.proved
#print axioms fnExactDeskWords_holds

theorem fnExactDeskWords_card : Rows.FnExactDeskWordsCardSaid :=
  Claim7.holds_tied_plain_at .later [] _ _ _ _ fnExactDeskWords_holds (fun _ h => by cases h) fnExactDeskWords.c_wf (fun _ h => by cases h) fnExactDeskWords_row_tie rfl ⟨rfl, rfl⟩ fnExactDeskWords.c_main rfl
    (fun f fn hf hfn => by
      obtain rfl : f = 3 := Option.some.inj (fnExactDeskWords.j_fn.symm.trans hf) |>.symm
      obtain rfl : fn = Tryz.f3 := (Option.some.inj (Tryz.func3.symm.trans hfn)).symm
      exact ⟨fnExactDeskWords.c_looks, fun j t ht => by
        rw [Tryz.params3] at ht
        have hm := Array.mem_of_getElem? ht
        simp at hm⟩)
    fnExactDeskWords.c_goes
#print axioms fnExactDeskWords_card
end Go.Proofs.YtghmkheebhhplaaGreatDoor
