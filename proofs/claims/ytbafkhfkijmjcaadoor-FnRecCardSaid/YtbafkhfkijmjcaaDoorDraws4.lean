/- The draws of RecBytes and RecRead. -/
import Derived.Test.YtbafkhfkijmjcaaDoorDraws3
import Derived.Test.YtbafkhfkijmjcaaDoorRows2
namespace Go.Proofs.YtbafkhfkijmjcaaDoor
open Go.RowKit

theorem recBytes_len (k t : Int) (d : ByteArray) : (recBytes k t d).length ≤ 50 := by
  unfold recBytes
  cases hR : recRightB k t d
  · simp
  · have h := (right_iff.1 hR).2.2.1
    have h1 := num_len k
    have h2 := num_len t
    have h3 := num_len (d.data.toList.length : Int)
    have hsz : d.data.toList.length = d.size := by simp
    simp only [if_true, sealBytes, recBody, textBytes, List.length_append, four_len]
    omega
/-- Unseal of a short text: its text is no longer. -/
theorem spec_unseal_le (s : ByteArray) (hs : s.size ≤ 8000) : ∃ t n c, t.size ≤ s.size ∧ (∀ w, Calls Tryd.prog 26 #[.string s] w fun e w' => e = .returned (textOut t n c) ∧ Below w.heap.size w w') := by
  by_cases h2 : s.size < 4
  · exact ⟨_, _, _, Nat.zero_le _, fun w => spec_unseal_short s w h2⟩
  cases h3 : sealedB s
  · exact ⟨_, _, _, Nat.zero_le _, fun w => spec_unseal_bad s w (by omega) (by omega) h3⟩
  · exact ⟨_, _, _, by simp, fun w => spec_unseal_good s w (by omega) (by omega) h3⟩

set_option maxHeartbeats 1000000 in
theorem draw_recBytes (w : World) (a : Option Addr) (len cap : Nat) (hl : len ≤ 1048576) (hb : Bytes w.heap.size w a len) :
    Calls Tryd.prog 7 #[.slice a len cap] w fun e w' => ∃ (k t : Int) (d : ByteArray), e = .returned (recV k t d) ∧ recDrawn k t d ∧ Below w.heap.size w w' := by
  have HB : Hid _ := hb
  clear hb
  go_enter Tryd.func7, Tryd.ntmps7
  have hal : Below w.heap.size w (w.alloc (recObj 0 0 ⟨#[]⟩)) := (Below.refl _ _).alloc (Nat.le_refl _) _
  have HB0 : Hid _ := bytes_up (bytes_below HB.out hal (Nat.le_refl _)) hal.size
  have HR0 : Hid ((w.alloc (recObj 0 0 ⟨#[]⟩)).heap[w.heap.size]? = some (recObj 0 0 ⟨#[]⟩)) := heap_alloc_new w _
  have HA : Hid _ := hal
  clear hal
  go_wp2_with fail
  refine (src_make _ a len cap hl HB0.out).mono ?_
  rintro e w1 ⟨rfl, hs1, hb1⟩
  have e1 : (w.alloc (recObj 0 0 ⟨#[]⟩)).heap.size = w.heap.size + 1 := by simp
  rw [e1] at hs1 hb1
  have HS1 : Hid (Src w1 (w.heap.size + 1) a len cap) := hs1
  have HB1 : Hid (Bytes (w.heap.size + 1) w1 a len) := bytes_below (e1 ▸ HB0.out) hb1 (Nat.le_refl _)
  have hz1 : w.heap.size + 1 < w1.heap.size := by
    obtain ⟨_, _, _, hh, _⟩ := hs1
    rcases Nat.lt_or_ge (w.heap.size + 1) w1.heap.size with h | h
    · exact h
    · rw [Array.getElem?_eq_none h] at hh; cases hh
  have HR1 : Hid (w1.heap[w.heap.size]? = some (recObj 0 0 ⟨#[]⟩)) := (hb1.block w.heap.size (by omega)).trans HR0.out
  have HL1 : Hid (Below w.heap.size w w1) := HA.out.trans (hb1.mono (by omega))
  clear hs1 hb1 e1
  go_wp2_with fail
  refine (src_rec (w.heap.size + 1) _ a len cap (w.heap.size + 1) hl HS1.out HB1.out (Nat.le_refl _) hz1).mono ?_
  rintro e w2 ⟨k, t, d, rfl, hkt, hs2, hb2⟩
  have HK : Hid _ := hkt
  have HR2 : Hid (w2.heap[w.heap.size]? = some (recObj 0 0 ⟨#[]⟩)) := (hb2.block w.heap.size (by omega)).trans HR1.out
  have HL2 : Hid (Below w.heap.size w w2) := HL1.out.trans (hb2.mono (by omega))
  clear hs2 hb2 hkt
  have hc2 := cell_of_heap HR2.out
  have hf2 := frozen_of_heap HR2.out
  go_wp2
  exact bodyPost_ret (v := recV k t d) (by simp [results, Tryd.results7, go_sem, hc2]) rfl ⟨k, t, d, rfl, HK.out, ((HL2.out.setCell (by simp) _).setCell (by simp) _).setCell (by simp) _⟩
set_option maxHeartbeats 2000000 in
theorem draw_recRead (w : World) (a : Option Addr) (len cap : Nat) (hl : len ≤ 1048576) (hb : Bytes w.heap.size w a len) :
    Calls Tryd.prog 9 #[.slice a len cap] w fun e w' => ∃ u : ByteArray, e = .returned (.string u) ∧ u.size ≤ 60 ∧ Below w.heap.size w w' := by
  have HB : Hid _ := hb
  clear hb
  go_enter Tryd.func9, Tryd.ntmps9
  go_wp2_with fail
  refine (src_make w a len cap hl HB.out).mono ?_
  rintro e w1 ⟨rfl, hs1, hb1⟩
  have HS1 : Hid _ := hs1
  have HB1 : Hid _ := bytes_below HB.out hb1 (Nat.le_refl _)
  have HL1 : Hid (Below w.heap.size w w1) := hb1
  have hz1 : w.heap.size < w1.heap.size := by
    obtain ⟨_, _, _, hh, _⟩ := hs1
    rcases Nat.lt_or_ge w.heap.size w1.heap.size with h | h
    · exact h
    · rw [Array.getElem?_eq_none h] at hh; cases hh
  clear hs1 hb1
  go_wp2_with fail
  refine (src_rec w.heap.size _ a len cap w.heap.size hl HS1.out HB1.out (Nat.le_refl _) hz1).mono ?_
  rintro e w2 ⟨k, t, d, rfl, hkt, hs2, hb2⟩
  have HK : Hid _ := hkt
  have HL2 : Hid (Below w.heap.size w w2) := HL1.out.trans hb2
  have HB2 : Hid _ := bytes_below HB1.out hb2 (Nat.le_refl _)
  have hz2 : w.heap.size < w2.heap.size := by have h := hb2.size; omega
  have HS2 : Hid _ := hs2
  clear hs2 hb2 hkt HS1 HB1 HL1
  go_wp2_with fail
  refine (spec_recBytes k t d _ (by have h := HK.out.2.2; unfold maxLen; omega)).mono ?_
  rintro e w3 ⟨rfl, hb3⟩
  have hlen := recBytes_len k t d
  obtain ⟨v, hv⟩ : ∃ v : ByteArray, (⟨(recBytes k t d).toArray⟩ : ByteArray) = v := ⟨_, rfl⟩
  have hvs : v.size ≤ 50 := by rw [← hv, size_mk]; exact hlen
  rw [hv]
  clear hv hlen HK
  have HL3 : Hid (Below w.heap.size w w3) := HL2.out.trans (hb3.mono (by omega))
  have HB3 : Hid _ := bytes_below HB2.out hb3 (by omega)
  have hz3 : w.heap.size < w3.heap.size := by have h := hb3.size; omega
  have HS3 : Hid _ := src_below HS2.out hb3 (by omega)
  clear hb3 HS2 HB2 HL2
  go_wp2_with fail
  refine (src_n w.heap.size 5 _ a len cap w.heap.size (by omega) (by omega) hl HS3.out HB3.out (Nat.le_refl _)).mono ?_
  rintro e w4 ⟨r, rfl, hr, hs4, hg4⟩
  have hz4 : w.heap.size < w4.heap.size := by have h := hg4.size; omega
  have HL4 : Hid (Below w.heap.size w w4) := HL3.out.grown hg4 (by omega) (fun k hk => by simp at hk; omega)
  have HB4 : Hid _ := bytes_grown HB3.out hg4 (Nat.le_refl _)
  have HS4 : Hid _ := hs4
  clear hs4 hg4 HS3 HB3 HL3
  by_cases hA : r = 0
  · have hAb : ((r : Int) == 0) = true := by rw [beq_iff_eq]; omega
    clear hA
    go_wp2_with fail
    refine (src_spoil w.heap.size v _ a len cap w.heap.size (by omega) hl HS4.out HB4.out (Nat.le_refl _) hz4).mono ?_
    rintro e w5 ⟨u, rfl, hu, hs5, hb5⟩
    have HL5 : Hid (Below w.heap.size w w5) := HL4.out.trans hb5
    clear hs5 hb5
    go_wp2
    go_ret
    exact ⟨u, rfl, by omega, HL5.out⟩
  have hAb : ((r : Int) == 0) = false := by rw [beq_eq_false_iff_ne]; omega
  by_cases hC : r = 1
  · have hCb : ((r : Int) == 1) = true := by rw [beq_iff_eq]; omega
    clear hA hC
    have HN : Hid _ := fun w' hs hb => src_nx w.heap.size (v.size + 1) w' a len cap w.heap.size (by omega) (by omega) hl hs hb (Nat.le_refl _)
    go_wp2_with fail
    refine (HN.out _ HS4.out HB4.out).mono ?_
    rintro e w5 ⟨r2, rfl, hr2, hs5, hg5⟩
    have HL5 : Hid (Below w.heap.size w w5) := HL4.out.grown hg5 (by omega) (fun k hk => by simp at hk; omega)
    clear hs5 hg5
    have hr3 : (r2 : Int) ≤ (v.size : Int) := by omega
    go_wp2
    go_ret
    exact ⟨_, rfl, by simp; omega, HL5.out⟩
  have hCb : ((r : Int) == 1) = false := by rw [beq_eq_false_iff_ne]; omega
  by_cases hD : r = 2
  · have hDb : ((r : Int) == 2) = true := by rw [beq_iff_eq]; omega
    clear hA hC hD
    obtain ⟨t', n', c', ht', HU⟩ := spec_unseal_le v (by omega)
    have HU' : Hid _ := HU
    clear HU
    go_wp2_with fail
    refine (HU'.out _).mono ?_
    rintro e w5 ⟨rfl, hb5⟩
    have HL5 : Hid (Below w.heap.size w w5) := HL4.out.trans (hb5.mono (by omega))
    have HB5 : Hid _ := bytes_below HB4.out hb5 (by omega)
    have hz5 : w.heap.size < w5.heap.size := by have h := hb5.size; omega
    have HS5 : Hid _ := src_below HS4.out hb5 (by omega)
    have hfld : ∀ w, (Instr.field 47 (.agg #[.string t', .int .i64 n', .int .i64 c']) 0).run Tryd.prog w = .ok (.string t') w := fun _ => by kernel_rfl
    clear hb5 HS4 HB4 HL4
    go_wp2_with fail
    refine (src_spoil w.heap.size t' _ a len cap w.heap.size (by omega) hl HS5.out HB5.out (Nat.le_refl _) hz5).mono ?_
    rintro e w6 ⟨u, rfl, hu, hs6, hb6⟩
    have HL6 : Hid (Below w.heap.size w w6) := HL5.out.trans hb6
    have hz6 : w.heap.size < w6.heap.size := by have h := hb6.size; omega
    clear hs6 hb6
    go_wp2_with fail
    refine (spec_seal u _ (by omega)).mono ?_
    rintro e w7 ⟨rfl, hb7⟩
    have HL7 : Hid (Below w.heap.size w w7) := HL6.out.trans (hb7.mono (by omega))
    have hul : u.data.toList.length = u.size := by simp
    go_wp2
    go_ret
    exact ⟨_, rfl, by rw [size_mk, sealBytes, List.length_append, four_len]; omega, HL7.out⟩
  · have hDb : ((r : Int) == 2) = false := by rw [beq_eq_false_iff_ne]; omega
    clear hA hC hD
    go_wp2
    go_ret
    exact ⟨_, rfl, by omega, HL4.out⟩
end Go.Proofs.YtbafkhfkijmjcaaDoor
