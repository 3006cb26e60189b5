/- Contracts for the records of the program. -/
import Derived.Test.YtopbfjdjlgecpaaGreatDoorRecSpec
import Derived.Test.YtopbfjdjlgecpaaGreatDoorDec
import Derived.Laws.StructEq
namespace Go.Proofs.YtopbfjdjlgecpaaGreatDoor
open Go.RowKit

set_option maxHeartbeats 1000000 in
theorem impl_dataFits (s : ByteArray) (most : Nat) (w : World) (hm : s.size ≤ maxLen) (hmost : most ≤ 16) (hT : utabs w) :
    Calls Tryz.prog 91 #[.string s, .int .i64 most] w fun e w' => e = .returned (.bool (decide (s.size ≤ most))) ∧ Below w.heap.size w w' := by
  have HM : Hid (s.size ≤ maxLen) := hm
  have HT : Hid (utabs w) := hT
  clear hm hT
  go_enter Tryz.func91, Tryz.ntmps91
  go_wp2
  go_loopw [5, 6, 7] (fun _ _ _ wr => ∃ pos : Nat, pos ≤ most ∧ pos ≤ s.size ∧ Hid (wr.heap[w.heap.size]? = some (.stringIter s pos)) ∧ Hid (Below w.heap.size w wr)) (fun _ _ _ wr => s.size - wr.iterPos w.heap.size)
  case atStart => exact ⟨0, by omega, by omega, World.iter_heap w s 0, (Below.refl _ _).alloc (Nat.le_refl _) _⟩
  case round =>
    obtain ⟨pos, hp1, hp2, hit, hbel⟩ := hrel
    by_cases hlt : pos < s.size
    · have hnx := fun ty => Lib.run_next_any_at (P := Tryz.prog) wr w.heap.size s pos ty hit.out hlt
      have hwd := dec_width s pos hlt
      have hsz := hbel.out.size
      have hB1 : Hid (Below w.heap.size w (wr.iterAt w.heap.size s (pos + (Utf8.decode s pos).2))) := Lib.below_iterAt hbel.out (Nat.le_refl _) s _
      have hit1 : Hid ((wr.iterAt w.heap.size s (pos + (Utf8.decode s pos).2)).heap[w.heap.size]? = some (.stringIter s (pos + (Utf8.decode s pos).2))) := Lib.iterAt_heap wr w.heap.size s pos _ hit.out
      have hrun : Hid (∀ w, utabs w → Calls Tryz.prog 115 #[.string (s.extract pos s.size)] w fun e w' => e = .returned (.tuple #[.int .i32 (Utf8.decode s pos).1, .int .i64 (Utf8.decode s pos).2]) ∧ Below w.heap.size w w') := fun w h => dec_run s pos w hlt h
      have hT1 : Hid (utabs (wr.iterAt w.heap.size s (pos + (Utf8.decode s pos).2))) := utabs_below HT.out hB1.out
      have hsz1 : (wr.iterAt w.heap.size s (pos + (Utf8.decode s pos).2)).heap.size = wr.heap.size := Lib.iterAt_size _ _ _ _
      have hR32 := decode_le s pos
      have hpos : pos + (Utf8.decode s pos).2 ≤ 9223372036854775807 := by have h := HM.out; unfold maxLen at h; omega
      generalize (Utf8.decode s pos).2 = K at hnx hwd hB1 hit1 hrun hT1 hsz1 hpos
      generalize (Utf8.decode s pos).1 = R at hnx hrun hR32
      generalize wr.iterAt w.heap.size s (pos + K) = wn at hnx hB1 hit1 hT1 hsz1
      have hlen : w.heap.size < wn.heap.size := by
        rcases Nat.lt_or_ge w.heap.size wn.heap.size with h | h
        · exact h
        · have := hit1.out; rw [Array.getElem?_eq_none h] at this; cases this
      by_cases hov : pos + K ≤ most
      · go_wp2_with (first | (go_at_call 115; refine (hrun.out _ hT1.out).mono ?_; rintro e w2 ⟨rfl, hb2⟩))
        have hit2 : Hid (w2.heap[w.heap.size]? = some (.stringIter s (pos + K))) := (hb2.block w.heap.size hlen).trans hit1.out
        have hbel2 : Hid (Below w.heap.size w w2) := hB1.out.trans (hb2.mono (by omega))
        go_roundw
        case rel => exact ⟨pos + K, hov, hwd.2, hit2, hbel2⟩
        case measure => simp [World.iterPos, hit2.out, hit.out]; omega
      · go_wp2_with (first | (go_at_call 115; refine (hrun.out _ hT1.out).mono ?_; rintro e w2 ⟨rfl, hb2⟩))
        go_ret
        exact ⟨ret_bool (decide_eq_false (by omega)).symm, hB1.out.trans (hb2.mono (by omega))⟩
    · have hnx := fun ty => Lib.run_next_end_at (P := Tryz.prog) wr w.heap.size s pos ty hit.out hlt
      go_wp2
      go_ret
      exact ⟨ret_bool (decide_eq_true (by omega)).symm, hbel.out⟩

theorem impl_recRight (k t : Int) (d : ByteArray) (w : World) (hm : d.size ≤ maxLen) (hT : utabs w) :
    Calls Tryz.prog 46 #[recV k t d] w fun e w' => e = .returned (.bool (recRightB k t d)) ∧ Below w.heap.size w w' := by
  have HF : Hid (∀ (most : Nat) (w : World), most ≤ 16 → utabs w → Calls Tryz.prog 91 #[.string d, .int .i64 most] w fun e w' => e = .returned (.bool (decide (d.size ≤ most))) ∧ Below w.heap.size w w') := fun most w h1 h2 => impl_dataFits d most w hm h1 h2
  have HT : Hid (utabs (w.alloc (.cells #[.int .i64 k, .int .i64 t, .string d] 28))) := utabs_alloc hT _
  clear hm hT
  by_cases ht : 1 ≤ t ∧ t ≤ 1000000
  · by_cases h1 : k = 1
    · subst h1
      go_enter Tryz.func46, Tryz.ntmps46
      go_wp2_with (first | (go_at_call 91; refine (HF.out 16 _ (by omega) HT.out).mono ?_; rintro e w2 ⟨rfl, hb2⟩))
      go_ret
      have hB : Below w.heap.size w w2 := ((Below.refl _ _).alloc (Nat.le_refl _) _).trans (hb2.mono (by simp))
      refine ⟨ret_bool ?_, hB⟩
      by_cases h : d.size ≤ 16
      · rw [decide_eq_true h, right_yes (by omega) ht h (.inl rfl)]
      · rw [decide_eq_false h, right_no (by omega)]
    · by_cases h23 : k = 2 ∨ k = 3
      · have HE : Hid (decide (d = ByteArray.empty) = recRightB k t d) := by
          show _ = _
          have hz : d = ByteArray.empty ↔ d.size ≤ 0 := by simp
          by_cases h : d.size ≤ 0
          · rw [decide_eq_true (hz.2 h), right_yes (by omega) ht (by omega) (.inr (by omega))]
          · rw [decide_eq_false (fun e => h (hz.1 e)), right_no (by omega)]
        rcases h23 with rfl | rfl
        all_goals
          clear h1
          go_enter Tryz.func46, Tryz.ntmps46
          go_wp2_with (first | (go_at_call 91; refine (HF.out 0 _ (by omega) HT.out).mono ?_; rintro e w2 ⟨rfl, hb2⟩))
          go_ret
          have hB : Below w.heap.size w w2 := ((Below.refl _ _).alloc (Nat.le_refl _) _).trans (hb2.mono (by simp))
          exact ⟨ret_bool HE.out, hB⟩
      · have HE : Hid (recRightB k t d = false) := right_no (by omega)
        have e1 : (k == 1) = false := by rw [beq_eq_false_iff_ne]; omega
        have e2 : (k == 2) = false := by rw [beq_eq_false_iff_ne]; omega
        have e3 : (k == 3) = false := by rw [beq_eq_false_iff_ne]; omega
        clear h1 h23
        go_enter Tryz.func46, Tryz.ntmps46
        go_wp2
        go_ret
        exact ⟨ret_bool HE.out.symm, (Below.refl _ _).alloc (Nat.le_refl _) _⟩
  · have HE : Hid (recRightB k t d = false) := right_no (by omega)
    have ht' : t < 1 ∨ 1000000 < t := by omega
    clear ht
    rcases ht' with ht | ht
    all_goals
      go_enter Tryz.func46, Tryz.ntmps46
      go_wp2
      go_ret
      exact ⟨ret_bool HE.out.symm, (Below.refl _ _).alloc (Nat.le_refl _) _⟩
end Go.Proofs.YtopbfjdjlgecpaaGreatDoor
