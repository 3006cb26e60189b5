import Derived.Test.YtahccighonddaaaGreatDoorSeal
import Derived.Test.YtahccighonddaaaGreatDoorTextOut
import Derived.RegionTactic
import Derived.Lib.Strings
import Derived.Deep.RegionWith
namespace Go.Proofs.YtahccighonddaaaGreatDoor
open Go.RowKit
theorem impl_unseal_size (s : ByteArray) (w : World) (hm : s.size ≤ maxLen) (hs : 8000 < s.size) :
    Calls Tryz.prog 249 #[.string s] w fun e w' => e = .returned (textOut ⟨#[]⟩ 0 2) ∧ Below w.heap.size w w' := by
  unfold maxLen at hm
  go_enter Tryz.func249, Tryz.ntmps249
  go_wp2
  exact bodyPost_ret (v := textOut ⟨#[]⟩ 0 2) (by simp [results, Tryz.results249, go_sem, textOut]) rfl ⟨rfl, (Below.refl _ _).alloc (Nat.le_refl _) _⟩
theorem impl_unseal_short (s : ByteArray) (w : World) (hs : s.size < 4) :
    Calls Tryz.prog 249 #[.string s] w fun e w' => e = .returned (textOut ⟨#[]⟩ 0 4) ∧ Below w.heap.size w w' := by
  go_enter Tryz.func249, Tryz.ntmps249
  go_wp2
  exact bodyPost_ret (v := textOut ⟨#[]⟩ 0 4) (by simp [results, Tryz.results249, go_sem, textOut]) rfl ⟨rfl, (Below.refl _ _).alloc (Nat.le_refl _) _⟩
def sealedB (s : ByteArray) : Bool := sealBytes (List.take (s.size - 4) s.data.toList) == s.toList
set_option maxHeartbeats 1000000 in
theorem impl_unseal_bad (s : ByteArray) (w : World) (h4 : 4 ≤ s.size) (hs : s.size ≤ 8000) (hq : sealedB s = false) :
    Calls Tryz.prog 249 #[.string s] w fun e w' => e = .returned (textOut ⟨#[]⟩ 0 5) ∧ Below w.heap.size w w' := by
  unfold sealedB at hq
  go_enter Tryz.func249, Tryz.ntmps249
  go_wp2_with fail
  refine (impl_copyText _ _ (by simp; omega)).mono ?_
  rintro e w1 ⟨rfl, hb1⟩
  go_wp2_with fail
  refine (impl_seal _ _ (by simp; omega)).mono ?_
  rintro e w2 ⟨rfl, hb2⟩
  have hz1 : w.heap.size < w1.heap.size := by have := hb1.size; simp at this; omega
  have hc1 := fun o => hb1.cell (p := ⟨w.heap.size, o, none⟩) (by simp)
  have hc2 := fun o => hb2.cell (p := ⟨w.heap.size, o, none⟩) hz1
  have hf1 := fun o => hb1.frozen (p := ⟨w.heap.size, o, none⟩) (by simp)
  have hf2 := fun o => hb2.frozen (p := ⟨w.heap.size, o, none⟩) hz1
  have hB : Below w.heap.size w w2 := (((Below.refl _ _).alloc (Nat.le_refl _) _).trans (hb1.mono (by simp))).trans (hb2.mono (by omega))
  go_wp2
  exact bodyPost_ret (v := textOut ⟨#[]⟩ 0 5) (by simp [results, Tryz.results249, go_sem, textOut, hc1, hc2]) rfl ⟨rfl, ((hB.setCell (by simp) _).setCell (by simp) _).setCell (by simp) _⟩
set_option maxHeartbeats 1000000 in
theorem impl_unseal_good (s : ByteArray) (w : World) (h4 : 4 ≤ s.size) (hs : s.size ≤ 8000) (hq : sealedB s = true) :
    Calls Tryz.prog 249 #[.string s] w fun e w' => e = .returned (textOut (s.extract 0 (s.size - 4)) 0 0) ∧ Below w.heap.size w w' := by
  unfold sealedB at hq
  go_enter Tryz.func249, Tryz.ntmps249
  go_wp2_with fail
  refine (impl_copyText _ _ (by simp; omega)).mono ?_
  rintro e w1 ⟨rfl, hb1⟩
  go_wp2_with fail
  refine (impl_seal _ _ (by simp; omega)).mono ?_
  rintro e w2 ⟨rfl, hb2⟩
  have hz1 : w.heap.size < w1.heap.size := by have := hb1.size; simp at this; omega
  have hc1 := fun o => hb1.cell (p := ⟨w.heap.size, o, none⟩) (by simp)
  have hc2 := fun o => hb2.cell (p := ⟨w.heap.size, o, none⟩) hz1
  have hf1 := fun o => hb1.frozen (p := ⟨w.heap.size, o, none⟩) (by simp)
  have hf2 := fun o => hb2.frozen (p := ⟨w.heap.size, o, none⟩) hz1
  have hB : Below w.heap.size w w2 := (((Below.refl _ _).alloc (Nat.le_refl _) _).trans (hb1.mono (by simp))).trans (hb2.mono (by omega))
  go_wp2
  exact bodyPost_ret (v := textOut (s.extract 0 (s.size - 4)) 0 0) (by simp [results, Tryz.results249, go_sem, textOut, hc1, hc2]) rfl ⟨rfl, ((hB.setCell (by simp) _).setCell (by simp) _).setCell (by simp) _⟩
theorem i64_wrap_in (n : Int) (h1 : -9223372036854775808 ≤ n) (h2 : n ≤ 9223372036854775807) : IntKind.i64.wrap n = n := by
  simp [IntKind.wrap, IntKind.bits, IntKind.signed]; omega
theorem spec_unseal_size (s : ByteArray) (w : World) (hm : s.size ≤ maxLen) (hs : 8000 < s.size) :
    Calls Tryz.prog 168 #[.string s] w fun e w' => e = .returned (textOut ⟨#[]⟩ 0 2) ∧ Below w.heap.size w w' := by
  unfold maxLen at hm
  go_enter Tryz.func168, Tryz.ntmps168
  go_wp2
  exact bodyPost_ret (v := textOut ⟨#[]⟩ 0 2) (by simp [results, Tryz.results168, go_sem, textOut]) rfl ⟨rfl, (Below.refl _ _).alloc (Nat.le_refl _) _⟩
theorem spec_unseal_short (s : ByteArray) (w : World) (hs : s.size < 4) :
    Calls Tryz.prog 168 #[.string s] w fun e w' => e = .returned (textOut ⟨#[]⟩ 0 4) ∧ Below w.heap.size w w' := by
  go_enter Tryz.func168, Tryz.ntmps168
  go_wp2
  exact bodyPost_ret (v := textOut ⟨#[]⟩ 0 4) (by simp [results, Tryz.results168, go_sem, textOut]) rfl ⟨rfl, (Below.refl _ _).alloc (Nat.le_refl _) _⟩
theorem sealed_last (s : ByteArray) (h4 : 4 ≤ s.size) : sealedB s = (four (crcOf 0 (List.take (s.size - 4) s.data.toList)) == (s.extract ((s.size : Int) - 4).toNat s.size).toList) := by
  have e : ((s.size : Int) - 4).toNat = s.size - 4 := by omega
  have hd : List.take (s.size - (s.size - 4)) (List.drop (s.size - 4) s.data.toList) = List.drop (s.size - 4) s.data.toList := List.take_of_length_le (by simp)
  unfold sealedB sealBytes
  rw [e, Lib.extract_toList, Lib.toList_data, hd, Bool.eq_iff_iff, beq_iff_eq, beq_iff_eq]
  constructor
  · intro h
    have h' := h.trans (List.take_append_drop (s.size - 4) s.data.toList).symm
    exact List.append_cancel_left h'
  · intro h
    rw [h]
    exact List.take_append_drop _ _
set_option maxHeartbeats 1000000 in
theorem spec_unseal_bad (s : ByteArray) (w : World) (h4 : 4 ≤ s.size) (hs : s.size ≤ 8000) (hq : sealedB s = false) :
    Calls Tryz.prog 168 #[.string s] w fun e w' => e = .returned (textOut ⟨#[]⟩ 0 5) ∧ Below w.heap.size w w' := by
  have hq' := (sealed_last s h4).symm.trans hq
  clear hq
  have HQ : Hid ((four (crcOf 0 (List.take (s.size - 4) s.data.toList)) == (s.extract ((s.size : Int) - 4).toNat s.size).toList) = false) := hq'
  clear hq'
  have h4' : (4 : Int) ≤ (s.size : Int) := by omega
  have hle : (s.size : Int) - 4 ≤ (s.size : Int) := by omega
  have hwr : IntKind.i64.wrap ((s.size : Int) - 4) = (s.size : Int) - 4 := i64_wrap_in _ (by omega) (by omega)
  have HC : Hid (∀ w, Calls Tryz.prog 182 #[.int .i64 0, .string (s.extract 0 (s.size - 4))] w fun e w' => e = .returned (.int .i64 (crcOf 0 (s.extract 0 (s.size - 4)).data.toList : Nat)) ∧ w' = w) := fun w => spec_l01Crc 0 _ w (by omega) (by simp; omega)
  go_enter Tryz.func168, Tryz.ntmps168
  go_wp2
  go_region_with (first | (go_at_call 182; refine (HC.out _).mono ?_; rintro e w1 ⟨rfl, rfl⟩) | (go_at_call 181; refine (spec_four _ _ (crcOf_lt _ _)).mono ?_; rintro e w2 ⟨rfl, hb2⟩))
  have hz1 : w.heap.size < w2.heap.size := by have := hb2.size; simp at this; omega
  have hc2 := fun o => hb2.cell (p := ⟨w.heap.size, o, none⟩) (by simp)
  have hf2 := fun o => hb2.frozen (p := ⟨w.heap.size, o, none⟩) (by simp)
  have hB : Below w.heap.size w w2 := (((Below.refl _ _).alloc (Nat.le_refl _) _).drew).trans (hb2.mono (by simp))
  rw [HQ.out]
  clear HQ HC hwr
  go_wp2
  exact bodyPost_ret (v := textOut ⟨#[]⟩ 0 5) (by simp [results, Tryz.results168, go_sem, textOut, hc2]) rfl ⟨rfl, ((hB.setCell (by simp) _).setCell (by simp) _).setCell (by simp) _⟩
set_option maxHeartbeats 1000000 in
theorem spec_unseal_good (s : ByteArray) (w : World) (h4 : 4 ≤ s.size) (hs : s.size ≤ 8000) (hq : sealedB s = true) :
    Calls Tryz.prog 168 #[.string s] w fun e w' => e = .returned (textOut (s.extract 0 (s.size - 4)) 0 0) ∧ Below w.heap.size w w' := by
  have hq' := (sealed_last s h4).symm.trans hq
  clear hq
  have HQ : Hid ((four (crcOf 0 (List.take (s.size - 4) s.data.toList)) == (s.extract ((s.size : Int) - 4).toNat s.size).toList) = true) := hq'
  clear hq'
  have h4' : (4 : Int) ≤ (s.size : Int) := by omega
  have hle : (s.size : Int) - 4 ≤ (s.size : Int) := by omega
  have hwr : IntKind.i64.wrap ((s.size : Int) - 4) = (s.size : Int) - 4 := i64_wrap_in _ (by omega) (by omega)
  have HC : Hid (∀ w, Calls Tryz.prog 182 #[.int .i64 0, .string (s.extract 0 (s.size - 4))] w fun e w' => e = .returned (.int .i64 (crcOf 0 (s.extract 0 (s.size - 4)).data.toList : Nat)) ∧ w' = w) := fun w => spec_l01Crc 0 _ w (by omega) (by simp; omega)
  go_enter Tryz.func168, Tryz.ntmps168
  go_wp2
  go_region_with (first | (go_at_call 182; refine (HC.out _).mono ?_; rintro e w1 ⟨rfl, rfl⟩) | (go_at_call 181; refine (spec_four _ _ (crcOf_lt _ _)).mono ?_; rintro e w2 ⟨rfl, hb2⟩))
  have hz1 : w.heap.size < w2.heap.size := by have := hb2.size; simp at this; omega
  have hc2 := fun o => hb2.cell (p := ⟨w.heap.size, o, none⟩) (by simp)
  have hf2 := fun o => hb2.frozen (p := ⟨w.heap.size, o, none⟩) (by simp)
  have hB : Below w.heap.size w w2 := (((Below.refl _ _).alloc (Nat.le_refl _) _).drew).trans (hb2.mono (by simp))
  rw [HQ.out]
  clear HQ HC hwr
  go_wp2
  exact bodyPost_ret (v := textOut (s.extract 0 (s.size - 4)) 0 0) (by simp [results, Tryz.results168, go_sem, textOut, hc2]) rfl ⟨rfl, ((hB.setCell (by simp) _).setCell (by simp) _).setCell (by simp) _⟩
end Go.Proofs.YtahccighonddaaaGreatDoor
