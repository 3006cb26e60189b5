/- RecBytes of the program. -/
import Derived.Test.YtopbfjdjlgecpaaGreatDoorRecImpl
namespace Go.Proofs.YtopbfjdjlgecpaaGreatDoor
open Go.RowKit

set_option maxHeartbeats 1000000 in
theorem impl_recBytes_no (k t : Int) (d : ByteArray) (w : World) (hm : d.size ≤ maxLen) (hT : utabs w) (hR : recRightB k t d = false) :
    Calls Tryz.prog 94 #[recV k t d] w fun e w' => e = .returned (.string ⟨#[]⟩) ∧ Below w.heap.size w w' := by
  have HR : Hid (∀ w, utabs w → Calls Tryz.prog 46 #[recV k t d] w fun e w' => e = .returned (.bool false) ∧ Below w.heap.size w w') := fun w h => by rw [← hR]; exact impl_recRight k t d w hm h
  have HT : Hid (utabs (w.alloc (.cells #[.int .i64 k, .int .i64 t, .string d] 28))) := utabs_alloc hT _
  clear hR hm hT
  go_enter Tryz.func94, Tryz.ntmps94
  go_wp2_with (first | (go_at_call 46; refine (HR.out _ HT.out).mono ?_; rintro e w2 ⟨rfl, hb2⟩))
  go_ret
  exact ⟨rfl, ((Below.refl _ _).alloc (Nat.le_refl _) _).trans (hb2.mono (by simp))⟩

set_option maxHeartbeats 8000000 in
theorem impl_recBytes_yes (k t : Int) (d : ByteArray) (w : World) (hT : utabs w) (hR : recRightB k t d = true) :
    Calls Tryz.prog 94 #[recV k t d] w fun e w' => e = .returned (.string ⟨(sealBytes (recBody k t d.data.toList)).toArray⟩) ∧ Below w.heap.size w w' := by
  obtain ⟨h1, h2, h3, h4⟩ := right_iff.1 hR
  have HR : Hid (∀ w, utabs w → Calls Tryz.prog 46 #[recV k t d] w fun e w' => e = .returned (.bool true) ∧ Below w.heap.size w w') := fun w h => by rw [← hR]; exact impl_recRight k t d w (by unfold maxLen; omega) h
  have HT : Hid (utabs (w.alloc (.cells #[.int .i64 k, .int .i64 t, .string d] 28))) := utabs_alloc hT _
  have l1 := num_len k
  have l2 := num_len t
  have l3 : (textBytes d.data.toList).length ≤ 26 := by
    have h3' := num_len (d.data.toList.length : Int)
    have hsz : d.data.toList.length = d.size := by simp
    rw [textBytes, List.length_append]
    omega
  have HJ1 : Hid (∀ w, Calls Tryz.prog 116 #[.string ⟨(numBytes k).toArray⟩, .string ⟨(numBytes t).toArray⟩] w fun e w' => e = .returned (.string ⟨(numBytes k ++ numBytes t).toArray⟩) ∧ Below w.heap.size w w') := by
    intro w
    exact impl_joinTexts _ _ w (by rw [size_mk, size_mk]; omega)
  have HJ2 : Hid (∀ w, Calls Tryz.prog 116 #[.string ⟨(numBytes k ++ numBytes t).toArray⟩, .string ⟨(textBytes d.data.toList).toArray⟩] w fun e w' => e = .returned (.string ⟨(recBody k t d.data.toList).toArray⟩) ∧ Below w.heap.size w w') := by
    intro w
    exact impl_joinTexts _ _ w (by rw [size_mk, size_mk, List.length_append]; omega)
  have HS : Hid (∀ w, Calls Tryz.prog 118 #[.string ⟨(recBody k t d.data.toList).toArray⟩] w fun e w' => e = .returned (.string ⟨(sealBytes (recBody k t d.data.toList)).toArray⟩) ∧ Below w.heap.size w w') := by
    intro w
    exact impl_seal _ w (by rw [size_mk, recBody, List.length_append, List.length_append]; omega)
  clear hR hT h4
  go_enter Tryz.func94, Tryz.ntmps94
  go_wp2_with (first | (go_at_call 46; refine (HR.out _ HT.out).mono ?_; rintro e w1 ⟨rfl, hb1⟩))
  have hc1 := fun o => hb1.cell (p := ⟨w.heap.size, o, none⟩) (by simp)
  have hz1 : w.heap.size < w1.heap.size := by have hz := hb1.size; simp at hz; omega
  have hB1 : Hid (Below w.heap.size w w1) := ((Below.refl _ _).alloc (Nat.le_refl _) _).trans (hb1.mono (by simp))
  clear hb1
  go_wp2
  go_region_with (first
    | (go_at_call 117; refine (impl_putNum _ _ (by omega) (by omega)).mono ?_; rintro e w2 ⟨rfl, hb2⟩; have hc2 := fun o => hb2.cell (p := ⟨w.heap.size, o, none⟩) (by first | omega | (simp; omega)); have hz2 : w.heap.size < w2.heap.size := (by have hz := hb2.size; (try simp at hz); omega); have hB2 : Hid (Below w.heap.size w w2) := (by first | exact hB1.out.drew.trans (hb2.mono (by simp; omega)) | exact hB2.out.trans (hb2.mono (by omega))); clear hb2)
    | (go_at_call 116; refine (HJ1.out _).mono ?_; rintro e w2 ⟨rfl, hb2⟩; have hc2 := fun o => hb2.cell (p := ⟨w.heap.size, o, none⟩) (by first | omega | (simp; omega)); have hz2 : w.heap.size < w2.heap.size := (by have hz := hb2.size; (try simp at hz); omega); have hB2 : Hid (Below w.heap.size w w2) := (by first | exact hB1.out.drew.trans (hb2.mono (by simp; omega)) | exact hB2.out.trans (hb2.mono (by omega))); clear hb2))
  all_goals
    go_wp2_with (first
      | (go_at_call 119; refine (impl_putText _ _ (by omega)).mono ?_; rintro e w3 ⟨rfl, hb3⟩)
      | (go_at_call 116; refine (HJ2.out _).mono ?_; rintro e w4 ⟨rfl, hb4⟩)
      | (go_at_call 118; refine (HS.out _).mono ?_; rintro e w5 ⟨rfl, hb5⟩))
    go_ret
    have z3 := hb3.size
    have z4 := hb4.size
    exact ⟨rfl, ((hB2.out.trans (hb3.mono (by omega))).trans (hb4.mono (by omega))).trans (hb5.mono (by omega))⟩
theorem impl_recBytes (k t : Int) (d : ByteArray) (w : World) (hm : d.size ≤ maxLen) (hT : utabs w) :
    Calls Tryz.prog 94 #[recV k t d] w fun e w' => e = .returned (.string ⟨(recBytes k t d).toArray⟩) ∧ Below w.heap.size w w' := by
  unfold recBytes
  cases hR : recRightB k t d
  · exact impl_recBytes_no k t d w hm hT hR
  · exact impl_recBytes_yes k t d w hT hR
end Go.Proofs.YtopbfjdjlgecpaaGreatDoor
