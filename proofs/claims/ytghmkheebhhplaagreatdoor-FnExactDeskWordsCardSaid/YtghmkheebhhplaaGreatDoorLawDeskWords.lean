/- The law FnExactDeskWords. -/
import Derived.Test.YtghmkheebhhplaaGreatDoorDeskWords3
namespace Go.Proofs.YtghmkheebhhplaaGreatDoor
open Go.RowKit
set_option linter.unusedSimpArgs false
set_option linter.unusedVariables false
theorem own_belowD {w w' : World} {base size n : Nat} {e : TypeId} {v : Value} {xs : List Value} (h : w.ownsRow base e size v n xs) (hb : Below w.heap.size w w') : w'.ownsRow base e size v n xs :=
  h.kept (below_grown hb) (by by_cases hh : v.ownBlock = none; exact .inl hh; exact .inr hh)
set_option maxRecDepth 100000 in
set_option maxHeartbeats 2000000 in
theorem law_DeskWords (w : World) : Calls Tryz.prog 3 #[] w fun x w' => x = .returned (.bool true) ∧ Below w.heap.size w w' := by
  obtain ⟨L, hL⟩ : ∃ L, deskWords = L := ⟨_, rfl⟩
  have HLN : Hid (L.length = 11) := hL ▸ rfl
  have HSP : Hid (∀ w : World, Calls Tryz.prog 4 #[] w fun x w' => ∃ a c, x = .returned (.slice a 11 c) ∧ w'.ownsRow w.heap.size 9 1 (.slice a 11 c) 11 (L.map Value.string) ∧ Below w.heap.size w w') := hL ▸ spec_DeskWords
  have HIM : Hid (∀ w : World, Calls Tryz.prog 5 #[] w fun x w' => ∃ a c, x = .returned (.slice a 11 c) ∧ w'.ownsRow w.heap.size 9 1 (.slice a 11 c) 11 (L.map Value.string) ∧ Below w.heap.size w w') := hL ▸ impl_DeskWords
  clear hL
  go_enter Tryz.func3, Tryz.ntmps3
  go_wp2_with fail
  refine Calls.mono (HSP.out _) ?_
  rintro x w1 ⟨a, c, rfl, ho1, hb1⟩
  have H1 : Hid (w1.ownsRow w.heap.size 9 1 (.slice a 11 c) 11 (L.map Value.string)) := ho1
  have HB1 : Hid (Below w.heap.size w w1) := hb1
  clear ho1 hb1
  go_wp2_with fail
  refine Calls.mono (HIM.out _) ?_
  rintro x w2 ⟨a2, c2, rfl, ho2, hb2⟩
  have H2 : Hid (w2.ownsRow w1.heap.size 9 1 (.slice a2 11 c2) 11 (L.map Value.string)) := ho2
  have H12 : Hid (w2.ownsRow w.heap.size 9 1 (.slice a 11 c) 11 (L.map Value.string)) := own_belowD H1.out hb2
  have HB2 : Hid (Below w.heap.size w w2) := below_tr HB1.out hb2
  have HA : Hid (∀ i, (Value.slice a 11 c).ownBlock = some i → (Value.slice a2 11 c2).ownBlock ≠ some i) := fun i hi h2 => by
    have h3 := (H1.out.lt i hi).2
    have h4 := (ho2.lt i h2).1
    omega
  clear ho2 hb2 H1
  have HL1 : Hid ((L.map Value.string).length = 11) := show _ = _ by rw [List.length_map, HLN.out]
  go_wp2_with fail
  refine (law_eqStrs a2 a 11 c2 c L _ (own_strs H2.out) (own_strs H12.out) (by omega)).mono ?_
  rintro x w3 ⟨rfl, hb3⟩
  have H3 : Hid (w3.ownsRow w1.heap.size 9 1 (.slice a2 11 c2) 11 (L.map Value.string)) := own_belowD H2.out hb3
  have H13 : Hid (w3.ownsRow w.heap.size 9 1 (.slice a 11 c) 11 (L.map Value.string)) := own_belowD H12.out hb3
  have HB3 : Hid (Below w.heap.size w w3) := below_tr HB2.out hb3
  clear hb3 H2 H12 HB2
  go_wp2_with fail
  refine (law_markStrs a2 11 c2 w1.heap.size _ 1 _ H3.out (by omega) (by omega)).mono ?_
  rintro x w4 ⟨rfl, ho4, hg4⟩
  have H4 : Hid (w4.ownsRow w1.heap.size 9 1 (.slice a2 11 c2) 11 (mStr 1 (L.map Value.string) 11)) := ho4
  have H14 : Hid (w4.ownsRow w.heap.size 9 1 (.slice a 11 c) 11 (L.map Value.string)) := H13.out.kept hg4 (by
    cases hh : (Value.slice a 11 c).ownBlock with
    | none => exact .inl rfl
    | some i => exact .inr (fun e => HA.out i hh e.symm))
  have HB4 : Hid (Below w.heap.size w w4) := HB3.out.grown hg4 HB3.out.size (fun i e => by have := (H3.out.lt i e).1; have := HB1.out.size; omega)
  obtain ⟨M, hM⟩ : ∃ M : Int, ((1 + 11 : Nat) : Int) = M := ⟨_, rfl⟩
  have HM : Hid (((1 + 11 : Nat) : Int) = M) := hM
  have hm0 : ¬ M < 0 := by omega
  have hmm : (M != M) = false := by simp
  rw [hM]
  clear ho4 hg4 H3 H13 HB3 hM
  go_wp2_with fail
  refine (law_heldStrs a2 11 c2 w1.heap.size _ 1 _ H4.out HL1.out (by omega) (by omega)).mono ?_
  rintro x w5 ⟨rfl, hb5⟩
  rw [HM.out]
  have H5 : Hid (w5.ownsRow w1.heap.size 9 1 (.slice a2 11 c2) 11 (mStr 1 (L.map Value.string) 11)) := own_belowD H4.out hb5
  have H15 : Hid (w5.ownsRow w.heap.size 9 1 (.slice a 11 c) 11 (L.map Value.string)) := own_belowD H14.out hb5
  have HB5 : Hid (Below w.heap.size w w5) := below_tr HB4.out hb5
  clear hb5 H4 H14 HB4
  go_wp2_with fail
  refine Calls.mono (HIM.out _) ?_
  rintro x w6 ⟨a6, c6, rfl, ho6, hb6⟩
  have H6 : Hid (w6.ownsRow w1.heap.size 9 1 (.slice a2 11 c2) 11 (mStr 1 (L.map Value.string) 11)) := own_belowD H5.out hb6
  have H16 : Hid (w6.ownsRow w.heap.size 9 1 (.slice a 11 c) 11 (L.map Value.string)) := own_belowD H15.out hb6
  have H66 : Hid (w6.ownsRow w5.heap.size 9 1 (.slice a6 11 c6) 11 (L.map Value.string)) := ho6
  have HB6 : Hid (Below w.heap.size w w6) := below_tr HB5.out hb6
  clear ho6 hb6 H5 H15 HB5
  go_wp2_with fail
  refine (law_eqStrs a6 a 11 c6 c L _ (own_strs H66.out) (own_strs H16.out) (by omega)).mono ?_
  rintro x w7 ⟨rfl, hb7⟩
  have H7 : Hid (w7.ownsRow w1.heap.size 9 1 (.slice a2 11 c2) 11 (mStr 1 (L.map Value.string) 11)) := own_belowD H6.out hb7
  have HB7 : Hid (Below w.heap.size w w7) := below_tr HB6.out hb7
  clear hb7 H6 H16 H66 HB6
  go_wp2_with fail
  refine (law_heldStrs a2 11 c2 w1.heap.size _ 1 _ H7.out HL1.out (by omega) (by omega)).mono ?_
  rintro x w8 ⟨rfl, hb8⟩
  rw [HM.out]
  have HB8 : Hid (Below w.heap.size w w8) := below_tr HB7.out hb8
  clear hb8
  go_wp2
  go_ret
  exact ⟨rfl, HB8.out⟩
end Go.Proofs.YtghmkheebhhplaaGreatDoor
