/- For every ring and record RingPut answers as the specification does, every field, it writes into no argument and keeps nothing of one, its answer owns its memory, and the law returns true; the decoder's two tables of Go's library stand as its text lays them (the card ties them). -/
import Derived.Test.YtopbfjdjlgecpaaGreatDoorLawRingPut
import Derived.Test.YtopbfjdjlgecpaaGreatDoorRingArg
import Derived.Test.YtopbfjdjlgecpaaGreatDoorTabs
import Derived.Lib.SmallJoins
import Derived.Test.YtopbfjdjlgecpaaGreatDoorCards
import Derived.Test.YtopbfjdjlgecpaaGreatDoorTie
import Derived.LaidLaws
import Derived.LaidHandle
import Derived.JoinedOf
import Derived.Stop.Joined
import Derived.SevenTiedAt
import Derived.ProofKit
import Derived.OpenShut
import Derived.ShutString
import Derived.ChangeOld
import Derived.Below
namespace Go.Proofs.YtopbfjdjlgecpaaGreatDoor.fnExactRingPut
open Go.ChangeShapes Go.WideShapes Go.ChangeAt Go.RowKit
open Go.ChangeMaps (open_string shut_string)
open Go.Joins (open_agg3 shut_agg3)
set_option linter.unusedVariables false

theorem own : ownKnob Tryz.prog.godebug = none := by kernel_rfl
theorem cellsRec : Tryz.prog.cellsOf 52 = 3 := by kernel_rfl
theorem laidOut : laidOutB Tryz.prog = true := by kernel_rfl
/-- What the row's list gives the walk: the decoder's two tables. -/
theorem tabs_of_laid {W : World} (h : laidMetH Tryz.prog Rows.fnExactRingPutRow.laid W) : utabs W := by
  have h' : laidMet Tryz.prog Rows.fnExactRingPutRow.laid W := h
  have h4 := Lib.laidMet.reads h' (List.mem_cons_self ..)
  have h3 := Lib.laidMet.reads h' (List.mem_cons_of_mem _ (List.mem_singleton.2 rfl))
  have e3 : Rows.laid_unicode_utf8_first = Lib.firstData := Pinned.utf8First_eq
  have e4 : (Rows.laid_unicode_utf8_acceptRanges : DataW Unit) = Lib.acceptData := by kernel_rfl
  rw [e3] at h3
  rw [e4] at h4
  exact utf8Tabs_of_reads { decLays with } decExtra h3 h4


set_option maxRecDepth 100000 in
theorem lifted (os : Os) (started : os.Started) (H : Type) (enc : TypeId × Value → H) :
    ReturnsInHanded {} Tryz.checked os 4 .any (fun w args => (Rows.fnExactRingPutSpec.pre enc Tryz.prog Tryz.f4 [] false w args ∧ laidMetH Tryz.prog Rows.fnExactRingPutRow.laid w) ∧ sizedMet enc Tryz.prog Tryz.f4 (OpenSpec.ofChange Rows.fnExactRingPutSpec) false w args)
      (Rows.fnExactRingPutSpec.post enc Tryz.prog Tryz.f4 false true false false) := by
  refine returnsInHanded_of_change_and (C := Tryz.checked) (X := fun w _ => laidMetH Tryz.prog Rows.fnExactRingPutRow.laid w) (fun _ _ _ hh h => h.of_heap hh) own started (by kernel_rfl) Tryz.func4
    (ChangeSpec.witness_at (enc := enc) (C := Tryz.checked) (os := os) (X := fun w _ => laidMetH Tryz.prog Rows.fnExactRingPutRow.laid w) false
      (withTabs (World.holding Tryz.prog os ⟨#[], #[], []⟩))
      #[.agg #[.int .i64 0, .int .i64 0, .slice none 0 0, .slice none 0 0], .agg #[.int .i64 0, .int .i64 0, .string ByteArray.empty]] 8 rfl (by kernel_rfl) (by kernel_rfl) (by kernel_rfl) (by kernel_rfl) (by kernel_rfl) (laidMetH_of_parts (laidMet_of_run' 8 (by kernel_rfl) (by kernel_rfl)) (by kernel_rfl))) ?_
  intro W base args ds gs before hval0 hW hcnd _ hL _
  have hval : ∀ (j : Nat) t v, Tryz.f4.params[j]? = some t → args[j]? = some v → Value.okWide Tryz.prog W .any base t v := hval0
  have hW' := hW
  obtain ⟨p, q, hA0, hV, rfl, hfz, hnd⟩ := hW
  have hA : DataW.TrodAll enc Tryz.prog W 0 (fun _ => true) true Tryz.f4.params.toList args.toList ds p := hA0
  rw [Tryz.params4] at hA hval
  obtain ⟨v0, vs0, d0, ds0, p0, q0, hargs, rfl, rfl, h0, r0⟩ := trodAll_cons hA
  obtain ⟨v1, vs1, d1, ds1, p1, q1, rfl, rfl, rfl, h1, r1⟩ := trodAll_cons r0
  obtain ⟨rfl, rfl, rfl⟩ := trodAll_nil r1
  obtain rfl : args = #[v0, v1] := by cases args; simp_all
  obtain ⟨rfl, rfl⟩ := trodVars_none hV
  have k0 := h0
  have lt0 : ∀ x ∈ p0, x.block < W.heap.size := by obtain ⟨m, hm⟩ := k0; exact DataW.trod_lt m _ _ _ hm
  obtain ⟨cap0, first0, ra0, rl0, rc0, ca0, cl0, cc0, recs0, curs0, rfl, w0⟩ := ring_arg (hval 0 51 v0 rfl rfl) h0
  obtain ⟨x1, x1', x1'', y1, y1', y1'', m1, rfl, rfl, rfl, g1, g1', g1''⟩ := open_agg3 Tryz.underlying52 (by kernel_rfl) cellsRec (hval 1 52 v1 rfl rfl) h1
  obtain ⟨k1, e1, rfl, u1⟩ := DataW.trod_int Tryz.underlying2 g1
  obtain ⟨t1, e1', rfl, u1'⟩ := DataW.trod_int Tryz.underlying2 g1'
  obtain ⟨d1, e1'', rfl, w1⟩ := DataW.trod_string Tryz.underlying9 g1''
  simp at e1 e1' e1''
  subst e1 e1' e1''
  have st1 : ∀ (W' : World) (sp : Nat → Bool), DataW.Trod enc Tryz.prog W' 0 sp true 52 (.agg #[.int .i64 k1, .int .i64 t1, .string d1]) (.agg [.lit (.int .i64 k1), .lit (.int .i64 t1), .lit (.string d1.data.toList)]) [] := fun W' sp =>
    shut_agg3 (y0 := (.lit (.int .i64 k1), [])) (y1 := (.lit (.int .i64 t1), [])) (y2 := (.lit (.string d1.data.toList), [])) Tryz.underlying52 (by kernel_rfl) cellsRec ⟨1, by simp [DataW.trod, Tryz.underlying2, u1]⟩ ⟨1, by simp [DataW.trod, Tryz.underlying2, u1']⟩ ⟨1, by simp [DataW.trod, Tryz.underlying9, w1]⟩
  clear hA0 hval0
  refine (law_ringPut cap0 first0 ra0 rl0 rc0 ca0 cl0 cc0 recs0 curs0 k1 t1 d1 W w0 w1 (tabs_of_laid hL)).mono fun e W' ⟨he, bel⟩ => ?_
  subst he
  exact ⟨_, rfl, _, _, _, [], _, [], hW', trodAll_mk1 (shut_bool Tryz.underlying4 _), (trodAll_cons_mk (Below.trod laidOut (by kernel_rfl) (of_decide_eq_true (by kernel_rfl)) k0 bel lt0) (trodAll_cons_mk (st1 _ _) trodAll_mk0)), rfl, bel.frame _, fun h => by cases h⟩

theorem proved : Rows.FnExactRingPutSaid :=
  OpenClaim.holds_of_wide 4 Tryz.f4 rfl rfl rfl rfl rfl rfl rfl ⟨rfl, rfl, rfl, rfl, rfl⟩ rfl rfl rfl rfl rfl (by kernel_rfl) Tryz.func4 (by kernel_rfl)
    (of_decide_eq_true (by kernel_rfl)) (by unfold Func.isWrapper; first | (rw [if_pos (by decide +kernel)]; kernel_rfl) | (rw [if_neg (by decide +kernel)]; exact ⟨rfl, rfl⟩))
    (fun os started H enc _ => lifted os started H enc)
end Go.Proofs.YtopbfjdjlgecpaaGreatDoor.fnExactRingPut
namespace Go.Proofs.YtopbfjdjlgecpaaGreatDoor
theorem fnExactRingPut_holds : Rows.FnExactRingPutSaid := fnExactRingPut.proved
#print axioms fnExactRingPut_holds

theorem fnExactRingPut_card : Rows.FnExactRingPutCardSaid :=
  Claim7.holds_tied_plain_at .later [] _ _ _ _ fnExactRingPut_holds (fun _ h => by cases h) (by kernel_rfl) (fun _ h => by cases h) fnExactRingPut_row_tie rfl ⟨rfl, rfl⟩ (by kernel_rfl) rfl
    (fun f fn hf hfn => by
      obtain rfl : f = 4 := Option.some.inj ((show Tryz.prog.funcNamed "loop.example/g00643/laws.FnExactRingPut" = some 4 by kernel_rfl).symm.trans hf) |>.symm
      obtain rfl : fn = Tryz.f4 := (Option.some.inj (Tryz.func4.symm.trans hfn)).symm
      exact ⟨by kernel_rfl, fun j t ht => by
        rw [Tryz.params4] at ht
        have hm := Array.mem_of_getElem? ht
        simp at hm
        rcases hm with rfl | rfl
        · exact (show Tryz.prog.wantsStandIn 51 = false by kernel_rfl)
        · exact (show Tryz.prog.wantsStandIn 52 = false by kernel_rfl)⟩)
    (by kernel_rfl)
#print axioms fnExactRingPut_card
end Go.Proofs.YtopbfjdjlgecpaaGreatDoor
