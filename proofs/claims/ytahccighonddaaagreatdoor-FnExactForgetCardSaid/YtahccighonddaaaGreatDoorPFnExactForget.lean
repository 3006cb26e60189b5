/- Forget of the program answers as the specification's, at every fabric, group and ring, field by field; it writes into no argument and keeps nothing of one, and its answer owns its memory, behind another call too (the two tables of unicode/utf8, package errors' own variable and the program's six errors as they are laid) -/
import Derived.Test.YtahccighonddaaaGreatDoorLawForgetAll
import Derived.Test.YtahccighonddaaaGreatDoorFabArg
import Derived.Test.YtahccighonddaaaGreatDoorErrsLaid
import Derived.Test.YtahccighonddaaaGreatDoorVars
import Derived.Test.YtahccighonddaaaGreatDoorTabs
import Derived.Test.YtahccighonddaaaGreatDoorCards
import Derived.Test.YtahccighonddaaaGreatDoorTie
import Derived.LaidLaws
import Derived.LaidHandle
import Derived.JoinedOf
import Derived.Stop.Joined
import Derived.SevenTiedAt
import Derived.ProofKit
import Derived.OpenShut
import Derived.ShutString
import Derived.ChangeOld
import Derived.Below
namespace Go.Proofs.YtahccighonddaaaGreatDoor.fnExactForget
open Go.ChangeShapes Go.WideShapes Go.ChangeAt Go.RowKit
open Go.ChangeMaps (open_string shut_string)
set_option linter.unusedVariables false

theorem own : ownKnob Tryz.prog.godebug = none := by kernel_rfl
theorem laidOut : laidOutB Tryz.prog = true := by kernel_rfl
theorem g_errNotRight : Tryz.prog.globalNamed "loop.example/g00643/impl.errNotRight" = some 0 := by kernel_rfl
theorem t_errNotRight : (Tryz.prog.globals[0]?).map (·.type) = some 77 := by kernel_rfl
theorem g_errFenced : Tryz.prog.globalNamed "loop.example/g00643/impl.errFenced" = some 3 := by kernel_rfl
theorem t_errFenced : (Tryz.prog.globals[3]?).map (·.type) = some 77 := by kernel_rfl
theorem g_errNoRing : Tryz.prog.globalNamed "loop.example/g00643/impl.errNoRing" = some 1 := by kernel_rfl
theorem t_errNoRing : (Tryz.prog.globals[1]?).map (·.type) = some 77 := by kernel_rfl
theorem g_errState : Tryz.prog.globalNamed "loop.example/g00643/impl.errState" = some 4 := by kernel_rfl
theorem t_errState : (Tryz.prog.globals[4]?).map (·.type) = some 77 := by kernel_rfl
theorem g_errNoRoom : Tryz.prog.globalNamed "loop.example/g00643/impl.errNoRoom" = some 2 := by kernel_rfl
theorem t_errNoRoom : (Tryz.prog.globals[2]?).map (·.type) = some 77 := by kernel_rfl
theorem g_errNoneLeft : Tryz.prog.globalNamed "loop.example/g00643/impl.errNoneLeft" = some 5 := by kernel_rfl
theorem t_errNoneLeft : (Tryz.prog.globals[5]?).map (·.type) = some 77 := by kernel_rfl
/-- What the row's list gives: the data alone. -/
theorem data_of_laid {W : World} (h : laidMetH Tryz.prog Rows.fnExactForgetRow.laid W) : laidMet Tryz.prog [("unicode/utf8.acceptRanges", Rows.laid_unicode_utf8_acceptRanges), ("loop.example/g00643/impl.errNotRight", Rows.laid_loop_example_g00643_impl_errNotRight), ("loop.example/g00643/impl.errFenced", Rows.laid_loop_example_g00643_impl_errFenced), ("loop.example/g00643/impl.errNoRing", Rows.laid_loop_example_g00643_impl_errNoRing), ("loop.example/g00643/impl.errState", Rows.laid_loop_example_g00643_impl_errState), ("loop.example/g00643/impl.errNoRoom", Rows.laid_loop_example_g00643_impl_errNoRoom), ("loop.example/g00643/impl.errNoneLeft", Rows.laid_loop_example_g00643_impl_errNoneLeft), ("unicode/utf8.first", Rows.laid_unicode_utf8_first)] W := by
  have h' : laidMet Tryz.prog [("unicode/utf8.acceptRanges", Rows.laid_unicode_utf8_acceptRanges), ("loop.example/g00643/impl.errNotRight", Rows.laid_loop_example_g00643_impl_errNotRight), ("loop.example/g00643/impl.errFenced", Rows.laid_loop_example_g00643_impl_errFenced), ("loop.example/g00643/impl.errNoRing", Rows.laid_loop_example_g00643_impl_errNoRing), ("loop.example/g00643/impl.errState", Rows.laid_loop_example_g00643_impl_errState), ("loop.example/g00643/impl.errNoRoom", Rows.laid_loop_example_g00643_impl_errNoRoom), ("loop.example/g00643/impl.errNoneLeft", Rows.laid_loop_example_g00643_impl_errNoneLeft), ("unicode/utf8.first", Rows.laid_unicode_utf8_first)] W ∧ handlesMet Tryz.prog _ W := h
  exact h'.1
theorem tabs_of_laid {W : World} (h : laidMetH Tryz.prog Rows.fnExactForgetRow.laid W) : utabs W := by
  have h' := data_of_laid h
  have h4 := Lib.laidMet.reads h' (List.mem_cons_self ..)
  have h3 := Lib.laidMet.reads h' (List.mem_cons_of_mem _ (List.mem_cons_of_mem _ (List.mem_cons_of_mem _ (List.mem_cons_of_mem _ (List.mem_cons_of_mem _ (List.mem_cons_of_mem _ (List.mem_cons_of_mem _ (List.mem_cons_self ..))))))))
  have e3 : Rows.laid_unicode_utf8_first = Lib.firstData := Pinned.utf8First_eq
  have e4 : (Rows.laid_unicode_utf8_acceptRanges : DataW Unit) = Lib.acceptData := by kernel_rfl
  rw [e3] at h3
  rw [e4] at h4
  exact utf8Tabs_of_reads { decLays with } decExtra h3 h4
theorem errs_of_laid {W : World} (h : laidMetH Tryz.prog Rows.fnExactForgetRow.laid W) : ∃ aN aF aR aS aM aL, Errs aN aF aR aS aM aL W ∧ W.var? Tryz.prog "loop.example/g00643/impl.errNotRight" = some #[.iface 310 (.pointer (some aN))] ∧ W.var? Tryz.prog "loop.example/g00643/impl.errFenced" = some #[.iface 310 (.pointer (some aF))] ∧ W.var? Tryz.prog "loop.example/g00643/impl.errNoRing" = some #[.iface 310 (.pointer (some aR))] ∧ W.var? Tryz.prog "loop.example/g00643/impl.errState" = some #[.iface 310 (.pointer (some aS))] ∧ W.var? Tryz.prog "loop.example/g00643/impl.errNoRoom" = some #[.iface 310 (.pointer (some aM))] ∧ W.var? Tryz.prog "loop.example/g00643/impl.errNoneLeft" = some #[.iface 310 (.pointer (some aL))] := by
  have h' : laidMet Tryz.prog [("unicode/utf8.acceptRanges", Rows.laid_unicode_utf8_acceptRanges), ("loop.example/g00643/impl.errNotRight", Rows.laid_loop_example_g00643_impl_errNotRight), ("loop.example/g00643/impl.errFenced", Rows.laid_loop_example_g00643_impl_errFenced), ("loop.example/g00643/impl.errNoRing", Rows.laid_loop_example_g00643_impl_errNoRing), ("loop.example/g00643/impl.errState", Rows.laid_loop_example_g00643_impl_errState), ("loop.example/g00643/impl.errNoRoom", Rows.laid_loop_example_g00643_impl_errNoRoom), ("loop.example/g00643/impl.errNoneLeft", Rows.laid_loop_example_g00643_impl_errNoneLeft), ("unicode/utf8.first", Rows.laid_unicode_utf8_first)] W ∧ handlesMet Tryz.prog _ W := h
  exact errs_of (h'.1.tail) (type_of_handle h'.2 (d := Rows.laid_errors_errorType) (List.mem_singleton.2 rfl) rfl rfl)

set_option maxRecDepth 100000 in
theorem lifted (os : Os) (started : os.Started) (H : Type) (enc : TypeId × Value → H) :
    ReturnsInHanded {} Tryz.checked os 6 .any (fun w args => (Rows.fnExactForgetSpec.pre enc Tryz.prog Tryz.f6 [] false w args ∧ laidMetH Tryz.prog Rows.fnExactForgetRow.laid w) ∧ sizedMet enc Tryz.prog Tryz.f6 (OpenSpec.ofChange Rows.fnExactForgetSpec) false w args)
      (Rows.fnExactForgetSpec.post enc Tryz.prog Tryz.f6 false true false false) := by
  refine returnsInHanded_of_change_and (C := Tryz.checked) (X := fun w _ => laidMetH Tryz.prog Rows.fnExactForgetRow.laid w) (fun _ _ _ hh h => h.of_heap hh) own started (by kernel_rfl) Tryz.func6
    (ChangeSpec.witness_at (enc := enc) (C := Tryz.checked) (os := os) (X := fun w _ => laidMetH Tryz.prog Rows.fnExactForgetRow.laid w) false
      ({ (withErr 5 [110, 111, 116, 104, 105, 110, 103, 32, 105, 115, 32, 108, 101, 102, 116, 32, 116, 111, 32, 98, 101, 32, 115, 97, 105, 100] (withErr 2 [116, 104, 101, 114, 101, 32, 105, 115, 32, 110, 111, 32, 114, 111, 111, 109] (withErr 4 [119, 104, 97, 116, 32, 116, 104, 101, 32, 112, 114, 111, 100, 117, 99, 101, 114, 32, 104, 97, 115, 32, 111, 112, 101, 110, 32, 100, 111, 101, 115, 32, 110, 111, 116, 32, 102, 105, 116] (withErr 1 [116, 104, 101, 114, 101, 32, 105, 115, 32, 110, 111, 32, 115, 117, 99, 104, 32, 114, 105, 110, 103] (withErr 3 [116, 104, 101, 32, 112, 114, 111, 100, 117, 99, 101, 114, 32, 105, 115, 32, 110, 111, 116, 32, 104, 101, 97, 114, 100, 32, 98, 121, 32, 116, 104, 97, 116, 32, 101, 112, 111, 99, 104] (withErr 0 [119, 104, 97, 116, 32, 119, 97, 115, 32, 104, 97, 110, 100, 101, 100, 32, 105, 110, 32, 105, 115, 32, 110, 111, 116, 32, 114, 105, 103, 104, 116] (withTabs (World.holding Tryz.prog os ⟨#[], #[], []⟩)))))))) with heap := (withErr 5 [110, 111, 116, 104, 105, 110, 103, 32, 105, 115, 32, 108, 101, 102, 116, 32, 116, 111, 32, 98, 101, 32, 115, 97, 105, 100] (withErr 2 [116, 104, 101, 114, 101, 32, 105, 115, 32, 110, 111, 32, 114, 111, 111, 109] (withErr 4 [119, 104, 97, 116, 32, 116, 104, 101, 32, 112, 114, 111, 100, 117, 99, 101, 114, 32, 104, 97, 115, 32, 111, 112, 101, 110, 32, 100, 111, 101, 115, 32, 110, 111, 116, 32, 102, 105, 116] (withErr 1 [116, 104, 101, 114, 101, 32, 105, 115, 32, 110, 111, 32, 115, 117, 99, 104, 32, 114, 105, 110, 103] (withErr 3 [116, 104, 101, 32, 112, 114, 111, 100, 117, 99, 101, 114, 32, 105, 115, 32, 110, 111, 116, 32, 104, 101, 97, 114, 100, 32, 98, 121, 32, 116, 104, 97, 116, 32, 101, 112, 111, 99, 104] (withErr 0 [119, 104, 97, 116, 32, 119, 97, 115, 32, 104, 97, 110, 100, 101, 100, 32, 105, 110, 32, 105, 115, 32, 110, 111, 116, 32, 114, 105, 103, 104, 116] (withTabs (World.holding Tryz.prog os ⟨#[], #[], []⟩)))))))).heap.modify 6 (rowOf #[.iface 263 (.agg #[.pointer (some ⟨9, 77, none⟩)])]) } : World)
      #[.agg #[.slice none 0 0, .slice none 0 0, .slice none 0 0, .int .i64 0], .int .i64 0, .int .i64 0] 8 rfl (by kernel_rfl) (by kernel_rfl) (by kernel_rfl) (by kernel_rfl) (by kernel_rfl) (laidMetH_of_parts (laidMet_of_run' 8 (by kernel_rfl) (by kernel_rfl)) (by kernel_rfl))) ?_
  intro W base args ds gs before hval0 hW hcnd _ hL _
  have hval : ∀ (j : Nat) t v, Tryz.f6.params[j]? = some t → args[j]? = some v → Value.okWide Tryz.prog W .any base t v := hval0
  have hW' := hW
  obtain ⟨p, q, hA0, hV, rfl, hfz, hnd⟩ := hW
  have hA : DataW.TrodAll enc Tryz.prog W 0 (fun _ => true) true Tryz.f6.params.toList args.toList ds p := hA0
  rw [Tryz.params6] at hA hval
  obtain ⟨v0, vs0, d0, ds0, p0, q0, hargs, rfl, rfl, h0, r0⟩ := trodAll_cons hA
  obtain ⟨v1, vs1, d1, ds1, p1, q1, rfl, rfl, rfl, h1, r1⟩ := trodAll_cons r0
  obtain ⟨v2, vs2, d2, ds2, p2, q2, rfl, rfl, rfl, h2, r2⟩ := trodAll_cons r1
  obtain ⟨rfl, rfl, rfl⟩ := trodAll_nil r2
  obtain rfl : args = #[v0, v1, v2] := by cases args; simp_all
  obtain ⟨aN, aF, aR, aS, aM, aL, hE, hv_errNotRight, hv_errFenced, hv_errNoRing, hv_errState, hv_errNoRoom, hv_errNoneLeft⟩ := errs_of_laid hL
  obtain ⟨rfl, rfl⟩ := hV.unique (vars_cons enc g_errNoRing t_errNoRing Tryz.underlying77 hv_errNoRing trivial (vars_cons enc g_errNotRight t_errNotRight Tryz.underlying77 hv_errNotRight trivial (vars_cons enc g_errFenced t_errFenced Tryz.underlying77 hv_errFenced trivial (vars_cons enc g_errState t_errState Tryz.underlying77 hv_errState trivial (vars_cons enc g_errNoRoom t_errNoRoom Tryz.underlying77 hv_errNoRoom trivial (vars_cons enc g_errNoneLeft t_errNoneLeft Tryz.underlying77 hv_errNoneLeft trivial (vars_nil enc)))))))
  have k0 := h0
  have lt0 : ∀ x ∈ p0, x.block < W.heap.size := by obtain ⟨m, hm⟩ := k0; exact DataW.trod_lt m _ _ _ hm
  obtain ⟨ra0, rl0, rc0, ea0, el0, ec0, ta0, tl0, tc0, now0, rs0, es0, ts0, rfl, w0⟩ := fab_arg (hval 0 26 v0 rfl rfl) h0
  obtain ⟨a1, rfl, rfl, rfl, w1⟩ := open_int Tryz.underlying2 (hval 1 2 v1 rfl rfl) h1
  obtain ⟨a2, rfl, rfl, rfl, w2⟩ := open_int Tryz.underlying2 (hval 2 2 v2 rfl rfl) h2
  clear hA0 hval0
  refine (law_Forget ra0 rl0 rc0 ea0 el0 ec0 ta0 tl0 tc0 now0 a1 a2 rs0 es0 ts0 W w0 (wf_in w1) (wf_in w2) ⟨tabs_of_laid hL, aN, aF, aR, aS, aM, aL, hE⟩).mono fun e W' ⟨he, bel⟩ => ?_
  subst he
  exact ⟨_, rfl, _, _, _, [], _, _, hW', trodAll_mk1 (shut_bool Tryz.underlying4 _), (trodAll_cons_mk (Below.trod laidOut (by kernel_rfl) (of_decide_eq_true (by kernel_rfl)) k0 bel lt0) (trodAll_cons_mk (shut_int Tryz.underlying2 w1) (trodAll_cons_mk (shut_int Tryz.underlying2 w2) trodAll_mk0))), (vars_cons enc g_errNoRing t_errNoRing Tryz.underlying77 (var?_below hv_errNoRing bel) trivial (vars_cons enc g_errNotRight t_errNotRight Tryz.underlying77 (var?_below hv_errNotRight bel) trivial (vars_cons enc g_errFenced t_errFenced Tryz.underlying77 (var?_below hv_errFenced bel) trivial (vars_cons enc g_errState t_errState Tryz.underlying77 (var?_below hv_errState bel) trivial (vars_cons enc g_errNoRoom t_errNoRoom Tryz.underlying77 (var?_below hv_errNoRoom bel) trivial (vars_cons enc g_errNoneLeft t_errNoneLeft Tryz.underlying77 (var?_below hv_errNoneLeft bel) trivial (vars_nil enc))))))), bel.frame _, fun h => by cases h⟩

theorem band {a b : Bool} (h : a = true) (k : b = true) : (a && b) = true := by rw [h, k]; rfl
theorem j_maps : mapsRowed Tryz.prog = true := by kernel_rfl
theorem j_inPlace : (Rows.fnExactForgetRow.inPlace == Tryz.prog.inPlace 6) = true := by kernel_rfl
theorem j_unf : (Rows.fnExactForgetRow.unfollowed == Tryz.prog.unfollowed 6) = true := by kernel_rfl
theorem j_rec : (Rows.fnExactForgetRow.recurses == Tryz.prog.recurses 6) = true := by kernel_rfl
theorem j_named : (Rows.fnExactForgetRow.named == Tryz.prog.varsNamed 6) = true := by kernel_rfl
theorem j_plain : (Rows.fnExactForgetRow.plainKeys == Tryz.prog.plainKeys) = true := by kernel_rfl
theorem j_heard : Tryz.prog.stopsHeard = true := by kernel_rfl
theorem j_enter : Tryz.prog.mayEnter = true := by kernel_rfl
theorem j_lift : (Rows.fnExactForgetRow.lifted == Tryz.prog.liftsFinal) = true := by kernel_rfl
theorem j_make : (Tryz.prog.make == some Rows.fnExactForgetRow.make) = true := by kernel_rfl
theorem j_fn : Tryz.prog.funcNamed "loop.example/g00643/laws.FnExactForget" = some 6 := by kernel_rfl
theorem c_wf : Rows.fnExactForgetRow.wfByText (OpenSpec.ofChange Rows.fnExactForgetSpec) = true := by kernel_rfl
theorem c_main : Tryz.prog.mainIs = some (Rows.fnExactForgetCard.stood.harness.1, Rows.fnExactForgetCard.stood.harness.2.toList) := by kernel_rfl
theorem c_looks : Rows.fnExactForgetCard.stood.looks = Tryz.prog.looks [] := by kernel_rfl
theorem c_goes : false = Rows.fnExactForgetRow.goesBy Tryz.prog := by kernel_rfl
theorem closed : joinedFacts Tryz.prog 6 Tryz.f6 Rows.fnExactForgetSpec Rows.fnExactForgetRow = true := by
  unfold joinedFacts
  exact (band (band (band (band (band (band (band (band (band (band (band (band (band (band (band (band (band (band (band (band (band (band (band (band (band (band (band (band (band (band (band (by kernel_rfl) laidOut) j_maps) (by kernel_rfl)) (by kernel_rfl)) (by kernel_rfl)) (by kernel_rfl)) (by kernel_rfl)) (by kernel_rfl)) j_inPlace) j_unf) j_rec) j_named) (by kernel_rfl)) (by kernel_rfl)) (by kernel_rfl)) (by kernel_rfl)) (by kernel_rfl)) (by kernel_rfl)) (by kernel_rfl)) (by kernel_rfl)) (by kernel_rfl)) j_plain) (by kernel_rfl)) j_heard) j_enter) j_lift) j_make) (by kernel_rfl)) (by kernel_rfl)) (by kernel_rfl)) (by kernel_rfl))
theorem proved : Rows.FnExactForgetSaid :=
  OpenClaim.holds_of_wide 6 Tryz.f6 rfl rfl rfl rfl rfl rfl rfl ⟨rfl, rfl, rfl, rfl, rfl⟩ rfl rfl rfl rfl rfl j_fn Tryz.func6 closed
    (of_decide_eq_true (by kernel_rfl)) (by unfold Func.isWrapper; first | (rw [if_pos (by decide +kernel)]; kernel_rfl) | (rw [if_neg (by decide +kernel)]; exact ⟨rfl, rfl⟩))
    (fun os started H enc _ => lifted os started H enc)
end Go.Proofs.YtahccighonddaaaGreatDoor.fnExactForget
namespace Go.Proofs.YtahccighonddaaaGreatDoor
theorem fnExactForget_holds : Rows.FnExactForgetSaid := fnExactForget.proved
#print axioms fnExactForget_holds

theorem fnExactForget_card : Rows.FnExactForgetCardSaid :=
  Claim7.holds_tied_plain_at .later [] _ _ _ _ fnExactForget_holds (fun _ h => by cases h) fnExactForget.c_wf (fun _ h => by cases h) fnExactForget_row_tie rfl ⟨rfl, rfl⟩ fnExactForget.c_main rfl
    (fun f fn hf hfn => by
      obtain rfl : f = 6 := Option.some.inj (fnExactForget.j_fn.symm.trans hf) |>.symm
      obtain rfl : fn = Tryz.f6 := (Option.some.inj (Tryz.func6.symm.trans hfn)).symm
      exact ⟨fnExactForget.c_looks, fun j t ht => by
        rw [Tryz.params6] at ht
        have hm := Array.mem_of_getElem? ht
        simp at hm
        rcases hm with rfl | rfl
        · exact (show Tryz.prog.wantsStandIn 26 = false by kernel_rfl)
        · exact (show Tryz.prog.wantsStandIn 2 = false by kernel_rfl)⟩)
    fnExactForget.c_goes
#print axioms fnExactForget_card
end Go.Proofs.YtahccighonddaaaGreatDoor
