/- For every fabric, ring and place Counts answers as the specification does, it writes into no argument, and the law returns true; the decoder's two tables and the program's errors stand as the program's text lays them (the card ties them). -/
import Derived.Test.YtdepaeajfldfbaaGreatDoorLawHearQ
import Derived.Test.YtdepaeajfldfbaaGreatDoorFabArg
import Derived.Test.YtdepaeajfldfbaaGreatDoorVars
import Derived.Test.YtdepaeajfldfbaaGreatDoorTabs
import Derived.Test.YtdepaeajfldfbaaGreatDoorCards
import Derived.Test.YtdepaeajfldfbaaGreatDoorTie
import Derived.LaidLaws
import Derived.LaidHandle
import Derived.JoinedOf
import Derived.Stop.Joined
import Derived.SevenTiedAt
import Derived.ProofKit
import Derived.OpenShut
import Derived.ShutString
import Derived.ChangeOld
import Derived.Below
namespace Go.Proofs.YtdepaeajfldfbaaGreatDoor.fnExactCounts
open Go.ChangeShapes Go.WideShapes Go.ChangeAt Go.RowKit
open Go.ChangeMaps (open_string shut_string)
set_option linter.unusedVariables false

theorem own : ownKnob Tryz.prog.godebug = none := by kernel_rfl
theorem laidOut : laidOutB Tryz.prog = true := by kernel_rfl
theorem g_errNotRight : Tryz.prog.globalNamed "loop.example/g00643/impl.errNotRight" = some 0 := by kernel_rfl
theorem t_errNotRight : (Tryz.prog.globals[0]?).map (·.type) = some 56 := by kernel_rfl
theorem g_errNoRing : Tryz.prog.globalNamed "loop.example/g00643/impl.errNoRing" = some 3 := by kernel_rfl
theorem t_errNoRing : (Tryz.prog.globals[3]?).map (·.type) = some 56 := by kernel_rfl
/-- What the row's list gives: the data alone. -/
theorem data_of_laid {W : World} (h : laidMetH Tryz.prog Rows.fnExactCountsRow.laid W) : laidMet Tryz.prog [("unicode/utf8.acceptRanges", Rows.laid_unicode_utf8_acceptRanges), ("loop.example/g00643/impl.errNotRight", Rows.laid_loop_example_g00643_impl_errNotRight), ("loop.example/g00643/impl.errNoRing", Rows.laid_loop_example_g00643_impl_errNoRing), ("unicode/utf8.first", Rows.laid_unicode_utf8_first)] W := by
  exact h
theorem tabs_of_laid {W : World} (h : laidMetH Tryz.prog Rows.fnExactCountsRow.laid W) : utabs W := by
  have h' := data_of_laid h
  have h4 := Lib.laidMet.reads h' (List.mem_cons_self ..)
  have h3 := Lib.laidMet.reads h' (List.mem_cons_of_mem _ (List.mem_cons_of_mem _ (List.mem_cons_of_mem _ (List.mem_cons_self ..))))
  have e3 : Rows.laid_unicode_utf8_first = Lib.firstData := Pinned.utf8First_eq
  have e4 : (Rows.laid_unicode_utf8_acceptRanges : DataW Unit) = Lib.acceptData := by kernel_rfl
  rw [e3] at h3
  rw [e4] at h4
  exact utf8Tabs_of_reads { decLays with } decExtra h3 h4
theorem err_errNotRight {W : World} (h : laidMetH Tryz.prog Rows.fnExactCountsRow.laid W) : ∃ a : Addr, W.var? Tryz.prog "loop.example/g00643/impl.errNotRight" = some #[.iface 266 (.pointer (some a))] := by
  obtain ⟨a, s, hv, _⟩ := laid_sentinel (data_of_laid h).tail g_errNotRight t_errNotRight Tryz.underlying56 errRow Tryz.underlying266 Tryz.underlying288 rfl rfl Tryz.underlying9 errCells strCells1
  exact ⟨a, hv⟩
theorem cell_errNotRight {W : World} {a : Addr} (hv : W.var? Tryz.prog "loop.example/g00643/impl.errNotRight" = some #[.iface 266 (.pointer (some a))]) : W.cell? ⟨0, 0, none⟩ = some (.iface 266 (.pointer (some a))) := by
  simpa using World.var?_cell g_errNotRight hv 0
theorem err_errNoRing {W : World} (h : laidMetH Tryz.prog Rows.fnExactCountsRow.laid W) : ∃ a : Addr, W.var? Tryz.prog "loop.example/g00643/impl.errNoRing" = some #[.iface 266 (.pointer (some a))] := by
  obtain ⟨a, s, hv, _⟩ := laid_sentinel (data_of_laid h).tail.tail g_errNoRing t_errNoRing Tryz.underlying56 errRow Tryz.underlying266 Tryz.underlying288 rfl rfl Tryz.underlying9 errCells strCells1
  exact ⟨a, hv⟩
theorem cell_errNoRing {W : World} {a : Addr} (hv : W.var? Tryz.prog "loop.example/g00643/impl.errNoRing" = some #[.iface 266 (.pointer (some a))]) : W.cell? ⟨3, 0, none⟩ = some (.iface 266 (.pointer (some a))) := by
  simpa using World.var?_cell g_errNoRing hv 0

set_option maxRecDepth 100000 in
theorem lifted (os : Os) (started : os.Started) (H : Type) (enc : TypeId × Value → H) :
    ReturnsInHanded {} Tryz.checked os 8 .any (fun w args => (Rows.fnExactCountsSpec.pre enc Tryz.prog Tryz.f8 [] false w args ∧ laidMetH Tryz.prog Rows.fnExactCountsRow.laid w) ∧ sizedMet enc Tryz.prog Tryz.f8 (OpenSpec.ofChange Rows.fnExactCountsSpec) false w args)
      (Rows.fnExactCountsSpec.post enc Tryz.prog Tryz.f8 false true false false) := by
  refine returnsInHanded_of_change_and (C := Tryz.checked) (X := fun w _ => laidMetH Tryz.prog Rows.fnExactCountsRow.laid w) (fun _ _ _ hh h => h.of_heap hh) own started (by kernel_rfl) Tryz.func8
    (ChangeSpec.witness_at (enc := enc) (C := Tryz.checked) (os := os) (X := fun w _ => laidMetH Tryz.prog Rows.fnExactCountsRow.laid w) false
      (withErr 3 [116, 104, 101, 114, 101, 32, 105, 115, 32, 110, 111, 32, 115, 117, 99, 104, 32, 114, 105, 110, 103] (withErr 0 [119, 104, 97, 116, 32, 119, 97, 115, 32, 104, 97, 110, 100, 101, 100, 32, 105, 110, 32, 105, 115, 32, 110, 111, 116, 32, 114, 105, 103, 104, 116] (withTabs (World.holding Tryz.prog os ⟨#[], #[], []⟩))))
      #[.agg #[.slice none 0 0, .slice none 0 0, .slice none 0 0, .int .i64 0], .int .i64 0, .int .i64 0] 8 rfl (by kernel_rfl) (by kernel_rfl) (by kernel_rfl) (by kernel_rfl) (by kernel_rfl) (laidMetH_of_parts (laidMet_of_run' 8 (by kernel_rfl) (by kernel_rfl)) (by kernel_rfl))) ?_
  intro W base args ds gs before hval0 hW hcnd _ hL _
  have hval : ∀ (j : Nat) t v, Tryz.f8.params[j]? = some t → args[j]? = some v → Value.okWide Tryz.prog W .any base t v := hval0
  have hW' := hW
  obtain ⟨p, q, hA0, hV, rfl, hfz, hnd⟩ := hW
  have hA : DataW.TrodAll enc Tryz.prog W 0 (fun _ => true) true Tryz.f8.params.toList args.toList ds p := hA0
  rw [Tryz.params8] at hA hval
  obtain ⟨v0, vs0, d0, ds0, p0, q0, hargs, rfl, rfl, h0, r0⟩ := trodAll_cons hA
  obtain ⟨v1, vs1, d1, ds1, p1, q1, rfl, rfl, rfl, h1, r1⟩ := trodAll_cons r0
  obtain ⟨v2, vs2, d2, ds2, p2, q2, rfl, rfl, rfl, h2, r2⟩ := trodAll_cons r1
  obtain ⟨rfl, rfl, rfl⟩ := trodAll_nil r2
  obtain rfl : args = #[v0, v1, v2] := by cases args; simp_all
  obtain ⟨a_errNotRight, hv_errNotRight⟩ := err_errNotRight hL
  obtain ⟨a_errNoRing, hv_errNoRing⟩ := err_errNoRing hL
  obtain ⟨rfl, rfl⟩ := hV.unique (vars_cons enc g_errNoRing t_errNoRing Tryz.underlying56 hv_errNoRing trivial (vars_cons enc g_errNotRight t_errNotRight Tryz.underlying56 hv_errNotRight trivial (vars_nil enc)))
  have k0 := h0
  have lt0 : ∀ x ∈ p0, x.block < W.heap.size := by obtain ⟨m, hm⟩ := k0; exact DataW.trod_lt m _ _ _ hm
  obtain ⟨ra0, rl0, rc0, ea0, el0, ec0, ta0, tl0, tc0, now0, rs0, es0, ts0, rfl, w0⟩ := fab_arg (hval 0 26 v0 rfl rfl) h0
  obtain ⟨a1, rfl, rfl, rfl, w1⟩ := open_int Tryz.underlying2 (hval 1 2 v1 rfl rfl) h1
  obtain ⟨a2, rfl, rfl, rfl, w2⟩ := open_int Tryz.underlying2 (hval 2 2 v2 rfl rfl) h2
  clear hA0 hval0
  refine (law_counts ra0 rl0 rc0 ea0 el0 ec0 ta0 tl0 tc0 now0 a1 a2 rs0 es0 ts0 W w0 (wf_in w1) (wf_in w2) ⟨tabs_of_laid hL, ⟨_, _, cell_errNotRight hv_errNotRight⟩, ⟨_, _, cell_errNoRing hv_errNoRing⟩⟩).mono fun e W' ⟨he, bel⟩ => ?_
  subst he
  exact ⟨_, rfl, _, _, _, [], _, _, hW', trodAll_mk1 (shut_bool Tryz.underlying4 _), (trodAll_cons_mk (Below.trod laidOut (by kernel_rfl) (of_decide_eq_true (by kernel_rfl)) k0 bel lt0) (trodAll_cons_mk (shut_int Tryz.underlying2 w1) (trodAll_cons_mk (shut_int Tryz.underlying2 w2) trodAll_mk0))), (vars_cons enc g_errNoRing t_errNoRing Tryz.underlying56 (var?_below hv_errNoRing bel) trivial (vars_cons enc g_errNotRight t_errNotRight Tryz.underlying56 (var?_below hv_errNotRight bel) trivial (vars_nil enc))), bel.frame _, fun h => by cases h⟩

theorem proved : Rows.FnExactCountsSaid :=
  OpenClaim.holds_of_wide 8 Tryz.f8 rfl rfl rfl rfl rfl rfl rfl ⟨rfl, rfl, rfl, rfl, rfl⟩ rfl rfl rfl rfl rfl (by kernel_rfl) Tryz.func8 (by kernel_rfl)
    (of_decide_eq_true (by kernel_rfl)) (by unfold Func.isWrapper; first | (rw [if_pos (by decide +kernel)]; kernel_rfl) | (rw [if_neg (by decide +kernel)]; exact ⟨rfl, rfl⟩))
    (fun os started H enc _ => lifted os started H enc)
end Go.Proofs.YtdepaeajfldfbaaGreatDoor.fnExactCounts
namespace Go.Proofs.YtdepaeajfldfbaaGreatDoor
theorem fnExactCounts_holds : Rows.FnExactCountsSaid := fnExactCounts.proved
#print axioms fnExactCounts_holds

theorem fnExactCounts_card : Rows.FnExactCountsCardSaid :=
  Claim7.holds_tied_plain_at .later [] _ _ _ _ fnExactCounts_holds (fun _ h => by cases h) (by kernel_rfl) (fun _ h => by cases h) fnExactCounts_row_tie rfl ⟨rfl, rfl⟩ (by kernel_rfl) rfl
    (fun f fn hf hfn => by
      obtain rfl : f = 8 := Option.some.inj ((show Tryz.prog.funcNamed "loop.example/g00643/laws.FnExactCounts" = some 8 by kernel_rfl).symm.trans hf) |>.symm
      obtain rfl : fn = Tryz.f8 := (Option.some.inj (Tryz.func8.symm.trans hfn)).symm
      exact ⟨by kernel_rfl, fun j t ht => by
        rw [Tryz.params8] at ht
        have hm := Array.mem_of_getElem? ht
        simp at hm
        rcases hm with rfl | rfl
        · exact (show Tryz.prog.wantsStandIn 26 = false by kernel_rfl)
        · exact (show Tryz.prog.wantsStandIn 2 = false by kernel_rfl)⟩)
    (by kernel_rfl)
#print axioms fnExactCounts_card
end Go.Proofs.YtdepaeajfldfbaaGreatDoor
