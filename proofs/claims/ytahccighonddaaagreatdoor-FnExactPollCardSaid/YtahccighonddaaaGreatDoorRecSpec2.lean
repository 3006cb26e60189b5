import Derived.Test.YtahccighonddaaaGreatDoorRecSpec
namespace Go.Proofs.YtahccighonddaaaGreatDoor
open Go.RowKit
set_option maxHeartbeats 20000000 in
theorem spec_l02Bytes (k t : Int) (d : ByteArray) (w : World) (hR : recRightB k t d = true) :
    Calls Tryz.prog 82 #[recV k t d] w fun e w' => e = .returned (.string ⟨(sealBytes (recBody k t d.data.toList)).toArray⟩) ∧ Below w.heap.size w w' := by
  obtain ⟨h1,h2,h3,h4⟩ := right_iff.1 hR
  have l1 := num_len k
  have l2 := num_len t
  have l3 : (textBytes d.data.toList).length ≤ 26 := by
    have h3' := num_len (d.data.toList.length : Int)
    have hsz : d.data.toList.length = d.size := by simp
    rw [textBytes,List.length_append]
    omega
  have HS : Hid (∀ w,Calls Tryz.prog 126 #[.string ((⟨(numBytes k).toArray⟩ : ByteArray) ++ ⟨(numBytes t).toArray⟩ ++ ⟨(textBytes d.data.toList).toArray⟩)] w fun e w' => e = .returned (.string ⟨(sealBytes (recBody k t d.data.toList)).toArray⟩) ∧ Below w.heap.size w w') := by
    intro w
    have e : (⟨(numBytes k).toArray⟩ : ByteArray) ++ ⟨(numBytes t).toArray⟩ ++ ⟨(textBytes d.data.toList).toArray⟩ = ⟨(recBody k t d.data.toList).toArray⟩ := by
      rw [cat_eq,cat_eq]
      simp only [recBody]
    rw [e]
    exact spec_seal _ w (by rw [size_mk,recBody,List.length_append,List.length_append]; omega)
  have a1 : ¬ 9223372036854775807 < (numBytes k).length + (numBytes t).length := by omega
  have a2 : ¬ 9223372036854775807 < (numBytes k).length + (numBytes t).length + (textBytes d.data.toList).length := by omega
  have hB0 : Hid (Below w.heap.size w (w.alloc (.cells #[.int .i64 k,.int .i64 t,.string d] 65)).drew) := ((Below.refl _ _).alloc (Nat.le_refl _) _).drew
  clear hR h4
  go_enter Tryz.func82,Tryz.ntmps82
  go_wp2
  go_region_with (first
    | (go_at_call 127; refine (spec_putNum _ _ (by omega) (by omega)).mono ?_; rintro e w1 ⟨rfl,hb1⟩; have hc1 := fun o => hb1.cell (p := ⟨w.heap.size,o,none⟩) (by first | omega | (simp; done)); have hz1 : w.heap.size < w1.heap.size := (by have hz := hb1.size; (try simp at hz); omega); have hB1 : Hid (Below w.heap.size w w1) := (by first | exact hB0.out.trans (hb1.mono (by simp)) | exact hB1.out.trans (hb1.mono (by omega))); clear hb1)
    | (go_at_call 128; refine (spec_putText _ _ (by omega)).mono ?_; rintro e w1 ⟨rfl,hb1⟩; have hc1 := fun o => hb1.cell (p := ⟨w.heap.size,o,none⟩) (by first | omega | (simp; done)); have hz1 : w.heap.size < w1.heap.size := (by have hz := hb1.size; (try simp at hz); omega); have hB1 : Hid (Below w.heap.size w w1) := (by first | exact hB0.out.trans (hb1.mono (by simp)) | exact hB1.out.trans (hb1.mono (by omega))); clear hb1)
    | (go_at_call 126; refine (HS.out _).mono ?_; rintro e w2 ⟨rfl,hb2⟩))
  all_goals
    go_wp2
    go_ret
    exact ⟨rfl,hB1.out.trans (hb2.mono (by omega))⟩
end Go.Proofs.YtahccighonddaaaGreatDoor
