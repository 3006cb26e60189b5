/- For every record RecBytes answers as the specification does, and the law returns true; the decoder's two tables of Go's library stand as its text lays them (the card ties them). -/
import Derived.Test.YtbafkhfkijmjcaaDoorLawRecB
import Derived.Test.YtbafkhfkijmjcaaDoorTabs
import Derived.Lib.SmallJoins
import Derived.Test.YtbafkhfkijmjcaaDoorCards
import Derived.Test.YtbafkhfkijmjcaaDoorTie
import Derived.LaidLaws
import Derived.LaidHandle
import Derived.JoinedOf
import Derived.Stop.Joined
import Derived.SevenTiedAt
import Derived.ProofKit
import Derived.OpenShut
import Derived.ShutString
import Derived.ChangeOld
import Derived.Below
namespace Go.Proofs.YtbafkhfkijmjcaaDoor.fnExactRecBytes
open Go.ChangeShapes Go.WideShapes Go.ChangeAt Go.RowKit
open Go.ChangeMaps (open_string shut_string)
open Go.Joins (open_agg3 shut_agg3)
set_option linter.unusedVariables false

theorem own : ownKnob Tryd.prog.godebug = none := by kernel_rfl
theorem cellsRec : Tryd.prog.cellsOf 33 = 3 := by kernel_rfl
/-- What the row's list gives the walk: the decoder's two tables. -/
theorem tabs_of_laid {W : World} (h : laidMetH Tryd.prog Rows.fnExactRecBytesRow.laid W) : utabs W := by
  have h' : laidMet Tryd.prog Rows.fnExactRecBytesRow.laid W := h
  have h4 := Lib.laidMet.reads h' (List.mem_cons_self ..)
  have h3 := Lib.laidMet.reads h' (List.mem_cons_of_mem _ (List.mem_singleton.2 rfl))
  have e3 : Rows.laid_unicode_utf8_first = Lib.firstData := Pinned.utf8First_eq
  have e4 : (Rows.laid_unicode_utf8_acceptRanges : DataW Unit) = Lib.acceptData := by kernel_rfl
  rw [e3] at h3
  rw [e4] at h4
  exact utf8Tabs_of_reads { decLays with } decExtra h3 h4


set_option maxRecDepth 100000 in
theorem lifted (os : Os) (started : os.Started) (H : Type) (enc : TypeId × Value → H) :
    ReturnsInHanded {} Tryd.checked os 5 .any (fun w args => (Rows.fnExactRecBytesSpec.pre enc Tryd.prog Tryd.f5 [] false w args ∧ laidMetH Tryd.prog Rows.fnExactRecBytesRow.laid w) ∧ sizedMet enc Tryd.prog Tryd.f5 (OpenSpec.ofChange Rows.fnExactRecBytesSpec) false w args)
      (Rows.fnExactRecBytesSpec.post enc Tryd.prog Tryd.f5 false true false false) := by
  refine returnsInHanded_of_change_and (C := Tryd.checked) (X := fun w _ => laidMetH Tryd.prog Rows.fnExactRecBytesRow.laid w) (fun _ _ _ hh h => h.of_heap hh) own started (by kernel_rfl) Tryd.func5
    (ChangeSpec.witness_at (enc := enc) (C := Tryd.checked) (os := os) (X := fun w _ => laidMetH Tryd.prog Rows.fnExactRecBytesRow.laid w) false
      (withTabs (World.holding Tryd.prog os ⟨#[], #[], []⟩))
      #[.agg #[.int .i64 0, .int .i64 0, .string ByteArray.empty]] 8 rfl (by kernel_rfl) (by kernel_rfl) (by kernel_rfl) (by kernel_rfl) (by kernel_rfl) (laidMetH_of_parts (laidMet_of_run' 8 (by kernel_rfl) (by kernel_rfl)) (by kernel_rfl))) ?_
  intro W base args ds gs before hval0 hW hcnd _ hL _
  have hval : ∀ (j : Nat) t v, Tryd.f5.params[j]? = some t → args[j]? = some v → Value.okWide Tryd.prog W .any base t v := hval0
  have hW' := hW
  obtain ⟨p, q, hA0, hV, rfl, hfz, hnd⟩ := hW
  have hA : DataW.TrodAll enc Tryd.prog W 0 (fun _ => true) true Tryd.f5.params.toList args.toList ds p := hA0
  rw [Tryd.params5] at hA hval
  obtain ⟨v0, vs0, d0, ds0, p0, q0, hargs, rfl, rfl, h0, r0⟩ := trodAll_cons hA
  obtain ⟨rfl, rfl, rfl⟩ := trodAll_nil r0
  obtain rfl : args = #[v0] := by cases args; simp_all
  obtain ⟨rfl, rfl⟩ := trodVars_none hV
  obtain ⟨x0, x0', x0'', y0, y0', y0'', m0, rfl, rfl, rfl, g0, g0', g0''⟩ := open_agg3 Tryd.underlying33 (by kernel_rfl) cellsRec (hval 0 33 v0 rfl rfl) h0
  obtain ⟨k0, e0, rfl, u0⟩ := DataW.trod_int Tryd.underlying2 g0
  obtain ⟨t0, e0', rfl, u0'⟩ := DataW.trod_int Tryd.underlying2 g0'
  obtain ⟨d0, e0'', rfl, w0⟩ := DataW.trod_string Tryd.underlying9 g0''
  simp at e0 e0' e0''
  subst e0 e0' e0''
  have st0 : ∀ (W' : World) (sp : Nat → Bool), DataW.Trod enc Tryd.prog W' 0 sp true 33 (.agg #[.int .i64 k0, .int .i64 t0, .string d0]) (.agg [.lit (.int .i64 k0), .lit (.int .i64 t0), .lit (.string d0.data.toList)]) [] := fun W' sp =>
    shut_agg3 (y0 := (.lit (.int .i64 k0), [])) (y1 := (.lit (.int .i64 t0), [])) (y2 := (.lit (.string d0.data.toList), [])) Tryd.underlying33 (by kernel_rfl) cellsRec ⟨1, by simp [DataW.trod, Tryd.underlying2, u0]⟩ ⟨1, by simp [DataW.trod, Tryd.underlying2, u0']⟩ ⟨1, by simp [DataW.trod, Tryd.underlying9, w0]⟩
  clear hA0 hval0
  refine (law_recBytes k0 t0 d0 W w0 (tabs_of_laid hL)).mono fun e W' ⟨he, bel⟩ => ?_
  subst he
  exact ⟨_, rfl, _, _, _, [], _, [], hW', trodAll_mk1 (shut_bool Tryd.underlying4 _), (trodAll_cons_mk (st0 _ _) trodAll_mk0), rfl, bel.frame _, fun h => by cases h⟩

theorem proved : Rows.FnExactRecBytesSaid :=
  OpenClaim.holds_of_wide 5 Tryd.f5 rfl rfl rfl rfl rfl rfl rfl ⟨rfl, rfl, rfl, rfl, rfl⟩ rfl rfl rfl rfl rfl (by kernel_rfl) Tryd.func5 (by kernel_rfl)
    (of_decide_eq_true (by kernel_rfl)) (by unfold Func.isWrapper; first | (rw [if_pos (by decide +kernel)]; kernel_rfl) | (rw [if_neg (by decide +kernel)]; exact ⟨rfl, rfl⟩))
    (fun os started H enc _ => lifted os started H enc)
end Go.Proofs.YtbafkhfkijmjcaaDoor.fnExactRecBytes
namespace Go.Proofs.YtbafkhfkijmjcaaDoor
theorem fnExactRecBytes_holds : Rows.FnExactRecBytesSaid := fnExactRecBytes.proved
#print axioms fnExactRecBytes_holds

theorem fnExactRecBytes_card : Rows.FnExactRecBytesCardSaid :=
  Claim7.holds_tied_plain_at .later [] _ _ _ _ fnExactRecBytes_holds (fun _ h => by cases h) (by kernel_rfl) (fun _ h => by cases h) fnExactRecBytes_row_tie rfl ⟨rfl, rfl⟩ (by kernel_rfl) rfl
    (fun f fn hf hfn => by
      obtain rfl : f = 5 := Option.some.inj ((show Tryd.prog.funcNamed "loop.example/g00643/laws.FnExactRecBytes" = some 5 by kernel_rfl).symm.trans hf) |>.symm
      obtain rfl : fn = Tryd.f5 := (Option.some.inj (Tryd.func5.symm.trans hfn)).symm
      exact ⟨by kernel_rfl, fun j t ht => by
        rw [Tryd.params5] at ht
        have hm := Array.mem_of_getElem? ht
        simp at hm
        rcases hm with rfl
        · exact (show Tryd.prog.wantsStandIn 33 = false by kernel_rfl)⟩)
    (by kernel_rfl)
#print axioms fnExactRecBytes_card
end Go.Proofs.YtbafkhfkijmjcaaDoor
