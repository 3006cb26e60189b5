/- The law of RingNew. -/
import Derived.Test.YtblkbpgnhkjaaaaRingNew
import Derived.Test.YtblkbpgnhkjaaaaLawRing2
namespace Go.Proofs.Ytblkbpgnhkjaaaa
open Go.RowKit

theorem strs_nil (w : World) : Strs w none 0 [] := ⟨rfl, fun i hi => by simp at hi⟩
theorem curs_nil (w : World) : Curs w none 0 [] := ⟨rfl, fun i hi => by simp at hi⟩
theorem ownRing_nil (w : World) (base : Nat) : OwnRing w base none 0 0 none 0 0 [] [] := ⟨World.ownsRow_nil _ _ _ _, World.ownsRow_nil _ _ _ _⟩
set_option maxHeartbeats 400000 in
theorem law_ringNew (n : Int) (w : World) (_h : (Lit.int .i64 n).wf = true) : Calls Try.prog 3 #[.int .i64 n] w fun e w' => e = .returned (.bool true) ∧ Below w.heap.size w w' := by
  obtain ⟨cp, hcp⟩ : ∃ cp, newCap n = cp := ⟨_, rfl⟩
  obtain ⟨cd, hcd⟩ : ∃ cd, newCode n = cd := ⟨_, rfl⟩
  have HS : Hid (∀ w, Calls Try.prog 4 #[.int .i64 n] w fun e w' => e = .returned (ringOutV cp 0 none 0 0 none 0 0 0 0 ⟨#[]⟩ cd) ∧ Below w.heap.size w w') := fun w => by rw [← hcp, ← hcd]; exact spec_ringNew n w
  have HI : Hid (∀ w, Calls Try.prog 5 #[.int .i64 n] w fun e w' => e = .returned (ringOutV cp 0 none 0 0 none 0 0 0 0 ⟨#[]⟩ cd) ∧ Below w.heap.size w w') := fun w => by rw [← hcp, ← hcd]; exact impl_ringNew n w
  clear hcp hcd
  clear _h
  go_enter Try.func3, Try.ntmps3
  go_wp2_with fail
  refine (HS.out _).mono ?_
  rintro e w1 ⟨rfl, hb1⟩
  have hB1 : Hid (Below w.heap.size w w1) := hb1
  have hz1 := hb1.size
  clear hb1
  go_wp2_with fail
  refine (HI.out _).mono ?_
  rintro e w2 ⟨rfl, hb2⟩
  have hc2 := fun o => hb2.cell (p := ⟨w1.heap.size, o, none⟩) (by simp)
  have hz2 : w1.heap.size < w2.heap.size := by have h := hb2.size; simp at h; omega
  have hB2 : Hid (Below w.heap.size w w2) := below_tr (hB1.out.alloc hz1 _) hb2
  clear hb2
  go_wp2_with fail
  refine (law_eqRingOut cp 0 none 0 0 none 0 0 none 0 none 0 0 0 ⟨#[]⟩ cd [] [] _ (strs_nil _) (strs_nil _) (curs_nil _) (curs_nil _) (by omega) (by omega)).mono ?_
  rintro e w3 ⟨rfl, hb3⟩
  have hc3 := fun o => hb3.cell (p := ⟨w1.heap.size, o, none⟩) (by simp; omega)
  have hd3 := fun o => hb3.cell (p := ⟨w2.heap.size, o, none⟩) (by simp)
  have hz3 : w2.heap.size < w3.heap.size := by have h := hb3.size; simp at h; omega
  have hB3 : Hid (Below w.heap.size w w3) := below_tr (hB2.out.alloc (by omega) _) hb3
  clear hb3
  go_wp2_with fail
  refine (law_markRingOut cp 0 none 0 0 none 0 0 0 0 ⟨#[]⟩ cd 0 [] [] 1 _ (ownRing_nil _ _) (by omega) (by omega)).mono ?_
  rintro e w4 ⟨rfl, _, hg4⟩
  have hc4 := hg4.cell (b := w1.heap.size) (by omega) (by simp [Value.ownBlock]) (by simp [Value.ownBlock])
  have hd4 := hg4.cell (b := w2.heap.size) (by omega) (by simp [Value.ownBlock]) (by simp [Value.ownBlock])
  have hz4 : w2.heap.size < w4.heap.size := by have h := hg4.2.2.2.1; omega
  have hB4 : Hid (Below w.heap.size w w4) := Grown2.below hB3.out (by omega) hg4 (fun i e => by simp [Value.ownBlock] at e) (fun i e => by simp [Value.ownBlock] at e)
  clear hg4
  go_wp2_with fail
  refine (law_heldRingOut cp 0 none 0 0 none 0 0 0 0 ⟨#[]⟩ cd 0 [] [] 1 _ (ownRing_nil _ _) (by omega) (by omega)).mono ?_
  rintro e w5 ⟨rfl, hb5⟩
  have hc5 := fun o => hb5.cell (p := ⟨w1.heap.size, o, none⟩) (by show w1.heap.size < _; omega)
  have hd5 := fun o => hb5.cell (p := ⟨w2.heap.size, o, none⟩) hz4
  have hz5 : w2.heap.size < w5.heap.size := by have h := hb5.size; omega
  have hB5 : Hid (Below w.heap.size w w5) := below_tr hB4.out hb5
  clear hb5
  go_wp2_with fail
  refine (HI.out _).mono ?_
  rintro e w6 ⟨rfl, hb6⟩
  have hc6 := fun o => hb6.cell (p := ⟨w1.heap.size, o, none⟩) (by show w1.heap.size < _; omega)
  have hd6 := fun o => hb6.cell (p := ⟨w2.heap.size, o, none⟩) hz5
  have hz6 : w2.heap.size < w6.heap.size := by have h := hb6.size; omega
  have hy6 : w1.heap.size < w6.heap.size := by omega
  have hB6 : Hid (Below w.heap.size w w6) := below_tr hB5.out hb6
  clear hb6
  go_wp2_with fail
  refine (law_eqRingOut cp 0 none 0 0 none 0 0 none 0 none 0 0 0 ⟨#[]⟩ cd [] [] _ (strs_nil _) (strs_nil _) (curs_nil _) (curs_nil _) (by omega) (by omega)).mono ?_
  rintro e w7 ⟨rfl, hb7⟩
  have hd7 := fun o => hb7.cell (p := ⟨w2.heap.size, o, none⟩) (by simp; omega)
  have hB7 : Hid (Below w.heap.size w w7) := below_tr (hB6.out.alloc (by omega) _) hb7
  clear hb7
  go_wp2_with fail
  refine (law_heldRingOut cp 0 none 0 0 none 0 0 0 0 ⟨#[]⟩ cd 0 [] [] 1 _ (ownRing_nil _ _) (by omega) (by omega)).mono ?_
  rintro e w8 ⟨rfl, hb8⟩
  have hB8 : Hid (Below w.heap.size w w8) := below_tr hB7.out hb8
  clear hb8
  go_wp2
  go_ret
  exact ⟨rfl, hB8.out⟩
end Go.Proofs.Ytblkbpgnhkjaaaa
