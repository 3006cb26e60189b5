/- The law FnRec, walked. -/
import Derived.Test.YtbafkhfkijmjcaaDoorDraws4
import Derived.Test.YtbafkhfkijmjcaaDoorRecBack
import Derived.Test.YtbafkhfkijmjcaaDoorRecBytes
import Derived.Test.YtbafkhfkijmjcaaDoorRecSpec4
import Derived.Laws.StructEq
namespace Go.Proofs.YtbafkhfkijmjcaaDoor
open Go.RowKit

abbrev outObj (k t : Int) (d : ByteArray) (c : Int) : Obj := .cells #[.int .i64 k, .int .i64 t, .string d, .int .i64 c] 29 (0, 0)
set_option maxRecDepth 100000 in
set_option maxHeartbeats 8000000 in
theorem law_fnRec_in (a0 : Option Addr) (len0 cap0 : Nat) (a1 : Option Addr) (len1 cap1 : Nat) (w : World) (h0 : len0 ≤ 1048576) (h1 : len1 ≤ 1048576) (hb0 : Bytes w.heap.size w a0 len0) (hb1 : Bytes w.heap.size w a1 len1) (hT : utabs w) :
    Calls Tryd.prog 3 #[.slice a0 len0 cap0, .slice a1 len1 cap1] w fun e w' => e = .returned (.bool true) ∧ Below w.heap.size w w' := by
  have HB0 : Hid _ := hb0
  have HB1 : Hid _ := hb1
  have HT : Hid (utabs w) := hT
  clear hb0 hb1 hT
  go_enter Tryd.func3, Tryd.ntmps3
  go_wp2_with fail
  refine (draw_recBytes w a0 len0 cap0 h0 HB0.out).mono ?_
  rintro e w1 ⟨k, t, d, rfl, hkt, hL1⟩
  have HK : Hid (recDrawn k t d) := hkt
  have hdm : Hid (d.size ≤ maxLen) := by have h := hkt.2.2; show d.size ≤ maxLen; unfold maxLen; omega
  have HL1 : Hid (Below w.heap.size w (w1.alloc (recObj k t d))) := hL1.alloc hL1.size _
  have HT1 : Hid (utabs (w1.alloc (recObj k t d))) := utabs_below HT.out HL1.out
  have HQ1 : Hid ((w1.alloc (recObj k t d)).heap[w1.heap.size]? = some (recObj k t d)) := heap_alloc_new w1 _
  have hz1 : w.heap.size ≤ w1.heap.size := hL1.size
  clear hL1 hkt
  go_wp2_with fail
  refine (impl_recBytes k t d _ hdm.out HT1.out).mono ?_
  rintro e w2 ⟨rfl, hb2⟩
  have hz2 : w1.heap.size < w2.heap.size := by have h := hb2.size; simp at h; omega
  have HQ2 : Hid (w2.heap[w1.heap.size]? = some (recObj k t d)) := (hb2.block w1.heap.size (by simp)).trans HQ1.out
  have HL2 : Hid (Below w.heap.size w w2) := HL1.out.trans (hb2.mono (by simp; omega))
  have HM2 : Hid _ := bytes_up (bytes_below HB1.out HL2.out (Nat.le_refl _)) HL2.out.size
  clear hb2 HL1 HQ1 HT1
  go_wp2_with fail
  refine (draw_recRead w2 a1 len1 cap1 h1 HM2.out).mono ?_
  rintro e w3 ⟨u, rfl, hu, hb3⟩
  have hz3 : w1.heap.size < w3.heap.size := by have h := hb3.size; omega
  have HQ3 : Hid (w3.heap[w1.heap.size]? = some (recObj k t d)) := (hb3.block w1.heap.size hz2).trans HQ2.out
  have HL3 : Hid (Below w.heap.size w w3) := HL2.out.trans (hb3.mono (by omega))
  have HT3 : Hid (utabs w3) := utabs_below HT.out HL3.out
  have hum : Hid (u.size ≤ maxLen) := by show u.size ≤ maxLen; unfold maxLen; omega
  clear hb3 HL2 HQ2 HM2
  go_wp2_with fail
  refine (impl_recRead u _ hum.out HT3.out).mono ?_
  rintro e w4 ⟨rfl, hb4⟩
  obtain ⟨k', t', d', c', hres⟩ : ∃ k' t' d' c', readRes u = (k', t', d', c') := ⟨_, _, _, _, rfl⟩
  have HRES : Hid (readRes u = (k', t', d', c')) := hres
  rw [hres]
  clear hres
  have hz4 : w1.heap.size < w4.heap.size := by have h := hb4.size; omega
  have HQ4 : Hid (w4.heap[w1.heap.size]? = some (recObj k t d)) := (hb4.block w1.heap.size hz3).trans HQ3.out
  have HL4 : Hid (Below w.heap.size w w4) := HL3.out.trans (hb4.mono (by omega))
  clear hb4 HL3 HQ3 HT3
  go_upto_region 7 with fail
  generalize hW : w4.alloc (.cells #[.int .i64 k', .int .i64 t', .string d', .int .i64 (c' : Int)] 29) = w5
  have hal : Below w4.heap.size w4 w5 := by rw [← hW]; exact (Below.refl _ _).alloc (Nat.le_refl _) _
  have HX5 : Hid (w5.heap[w4.heap.size]? = some (outObj k' t' d' c')) := by show _ = _; rw [← hW]; exact heap_alloc_new w4 _
  have hz5 : w4.heap.size < w5.heap.size := by rw [← hW]; simp
  have HQ5 : Hid (w5.heap[w1.heap.size]? = some (recObj k t d)) := (hal.block w1.heap.size hz4).trans HQ4.out
  have HL5 : Hid (Below w.heap.size w w5) := HL4.out.trans (hal.mono (by omega))
  clear hW hal HL4 HQ4
  have HA : Hid _ := fun w => spec_recBytes k t d w hdm.out
  have HC : Hid _ := fun w => spec_recRead u w hum.out
  have HE : Hid _ := fun w h => impl_recRight k t d w hdm.out h
  have HF : Hid _ := fun w => spec_recRight k t d w hdm.out
  rw [HRES.out] at HC
  have HR : Hid (∀ w, utabs w → Calls Tryd.prog 10 #[.string ⟨(recBytes k t d).toArray⟩] w fun e w' => e = .returned (recOutV (readRes ⟨(recBytes k t d).toArray⟩)) ∧ Below w.heap.size w w') := fun w h => impl_recRead _ w (by have h := recBytes_len k t d; rw [size_mk]; unfold maxLen; omega) h
  have hBk : Hid (recRightB k t d = true → readRes ⟨(recBytes k t d).toArray⟩ = (k, t, d, 0)) := fun h => readRes_back h
  have hBn : Hid (recRightB k t d = false → (recBytes k t d).isEmpty = true) := fun h => by unfold recBytes; rw [h]; rfl
  have hBy : Hid (recRightB k t d = true → (recBytes k t d).isEmpty = false) := fun h => by
    unfold recBytes; rw [if_pos h, List.isEmpty_eq_false_iff]
    intro e
    have := congrArg List.length e
    simp [sealBytes, four_len] at this
  generalize hBB : recBytes k t d = B at HA HR hBk hBn hBy
  generalize hRR : recRightB k t d = R at HE HF hBk hBn hBy
  clear hBB hRR
  have q1 : (B == B) = true := by simp
  have q2 : (k' == k') = true := by simp
  have q3 : (t' == t') = true := by simp
  have q4 : (d'.toList == d'.toList) = true := by simp
  have q5 : ((c' : Int) == (c' : Int)) = true := by simp
  have q6 : (R != R) = false := by simp
  have HQ : Hid _ := HQ5.out
  have HX : Hid _ := HX5.out
  have HL : Hid _ := HL5.out
  have hcq := cell_of_heap HQ.out
  have hcx := cell_of_heap HX.out
  clear HQ5 HX5 HL5
  go_cut [41] (fun s41 wc => s41 = .bool false ∧ Hid (w4.heap.size < wc.heap.size) ∧ Hid (wc.heap[w1.heap.size]? = some (recObj k t d)) ∧ Hid (wc.heap[w4.heap.size]? = some (outObj k' t' d' c')) ∧ Hid (Below w.heap.size w wc))
  case first =>
    go_region_with (first
      | (go_at_call 11; refine (HA.out _).mono ?_; rintro e wn ⟨rfl, hbn⟩; have hzn : w4.heap.size < wn.heap.size := (by have hz := hbn.size; (try simp at hz); omega); have HQ : Hid (wn.heap[w1.heap.size]? = some (recObj k t d)) := (hbn.block w1.heap.size (by first | omega | (simp; omega))).trans HQ.out; have HX : Hid (wn.heap[w4.heap.size]? = some (outObj k' t' d' c')) := (hbn.block w4.heap.size (by first | omega | (simp; omega))).trans HX.out; have HL : Hid (Below w.heap.size w wn) := (by first | exact HL.out.trans (hbn.mono (by omega)) | exact HL.out.drew.trans (hbn.mono (by simp; omega))); have hcq := cell_of_heap HQ.out; have hcx := cell_of_heap HX.out; clear hbn)
      | (go_at_call 12; refine (HC.out _).mono ?_; rintro e wn ⟨rfl, hbn⟩; have hzn : w4.heap.size < wn.heap.size := (by have hz := hbn.size; (try simp at hz); omega); have HQ : Hid (wn.heap[w1.heap.size]? = some (recObj k t d)) := (hbn.block w1.heap.size (by first | omega | (simp; omega))).trans HQ.out; have HX : Hid (wn.heap[w4.heap.size]? = some (outObj k' t' d' c')) := (hbn.block w4.heap.size (by first | omega | (simp; omega))).trans HX.out; have HL : Hid (Below w.heap.size w wn) := (by first | exact HL.out.trans (hbn.mono (by omega)) | exact HL.out.drew.trans (hbn.mono (by simp; omega))); have hcq := cell_of_heap HQ.out; have hcx := cell_of_heap HX.out; clear hbn)
      | (go_at_call 13; refine (HE.out _ (utabs_below HT.out HL.out)).mono ?_; rintro e wn ⟨rfl, hbn⟩; have hzn : w4.heap.size < wn.heap.size := (by have hz := hbn.size; (try simp at hz); omega); have HQ : Hid (wn.heap[w1.heap.size]? = some (recObj k t d)) := (hbn.block w1.heap.size (by first | omega | (simp; omega))).trans HQ.out; have HX : Hid (wn.heap[w4.heap.size]? = some (outObj k' t' d' c')) := (hbn.block w4.heap.size (by first | omega | (simp; omega))).trans HX.out; have HL : Hid (Below w.heap.size w wn) := (by first | exact HL.out.trans (hbn.mono (by omega)) | exact HL.out.drew.trans (hbn.mono (by simp; omega))); have hcq := cell_of_heap HQ.out; have hcx := cell_of_heap HX.out; clear hbn)
      | (go_at_call 14; refine (HF.out _).mono ?_; rintro e wn ⟨rfl, hbn⟩; have hzn : w4.heap.size < wn.heap.size := (by have hz := hbn.size; (try simp at hz); omega); have HQ : Hid (wn.heap[w1.heap.size]? = some (recObj k t d)) := (hbn.block w1.heap.size (by first | omega | (simp; omega))).trans HQ.out; have HX : Hid (wn.heap[w4.heap.size]? = some (outObj k' t' d' c')) := (hbn.block w4.heap.size (by first | omega | (simp; omega))).trans HX.out; have HL : Hid (Below w.heap.size w wn) := (by first | exact HL.out.trans (hbn.mono (by omega)) | exact HL.out.drew.trans (hbn.mono (by simp; omega))); have hcq := cell_of_heap HQ.out; have hcx := cell_of_heap HX.out; clear hbn))
    all_goals
      go_wp2_with fail
      go_meet
      exact ⟨rfl, hzn, HQ, HX, HL⟩
  case rest =>
  obtain ⟨rfl, hzc, hQc, hXc, hLc⟩ := hcut
  clear HQ HX HL hcq hcx HA HC HE HF q6
  have hzc' := hzc.out
  have HQ : Hid _ := hQc.out
  have HX : Hid _ := hXc.out
  have HL : Hid _ := hLc.out
  have HTd : Hid (utabs wc.drew) := utabs_below HT.out HL.out.drew
  have hcq := cell_of_heap HQ.out
  have hcx := cell_of_heap HX.out
  clear hzc hQc hXc hLc q2 q3 q4 q5
  have p2 : (k == k) = true := by simp
  have p3 : (t == t) = true := by simp
  have p4 : (d.toList == d.toList) = true := by simp
  by_cases hc : c' = 0
  · subst hc
    obtain ⟨hB', hR'⟩ := readRes_ok HRES.out
    have HZ : Hid (∀ w, utabs w → Calls Tryd.prog 8 #[recV k' t' d'] w fun e w' => e = .returned (.string ⟨(recBytes k' t' d').toArray⟩) ∧ Below w.heap.size w w') := fun w h => impl_recBytes k' t' d' w (by have h := (right_iff.1 hR').2.2.1; unfold maxLen; omega) h
    have p5 : (recBytes k' t' d' == u.toList) = true := by rw [beq_iff_eq, Lib.toList_data]; exact hB'
    clear hB' hR' HRES
    generalize recBytes k' t' d' = B' at HZ p5
    cases R
    · have p1 := hBn.out rfl
      clear hBk hBn hBy
      go_wp2
      first
        | (go_region_with (first
          | (go_at_call 10; refine (HR.out _ ?_).mono ?_; exact HTd.out; rintro e wn ⟨rfl, hbn⟩; have hzn : w4.heap.size < wn.heap.size := (by have hz := hbn.size; (try simp at hz); omega); have HQ : Hid (wn.heap[w1.heap.size]? = some (recObj k t d)) := (hbn.block w1.heap.size (by first | omega | (simp; omega))).trans HQ.out; have HX : Hid (wn.heap[w4.heap.size]? = some (outObj k' t' d' ((0 : Nat) : Int))) := (hbn.block w4.heap.size (by first | omega | (simp; omega))).trans HX.out; have HL : Hid (Below w.heap.size w wn) := (by first | exact HL.out.trans (hbn.mono (by omega)) | exact HL.out.drew.trans (hbn.mono (by simp; omega))); have HTd : Hid (utabs wn) := utabs_below HT.out HL.out; have hcq := cell_of_heap HQ.out; have hcx := cell_of_heap HX.out; clear hbn)
          | (go_at_call 8; refine (HZ.out _ ?_).mono ?_; exact HTd.out; rintro e wn ⟨rfl, hbn⟩; have hzn : w4.heap.size < wn.heap.size := (by have hz := hbn.size; (try simp at hz); omega); have HQ : Hid (wn.heap[w1.heap.size]? = some (recObj k t d)) := (hbn.block w1.heap.size (by first | omega | (simp; omega))).trans HQ.out; have HX : Hid (wn.heap[w4.heap.size]? = some (outObj k' t' d' ((0 : Nat) : Int))) := (hbn.block w4.heap.size (by first | omega | (simp; omega))).trans HX.out; have HL : Hid (Below w.heap.size w wn) := (by first | exact HL.out.trans (hbn.mono (by omega)) | exact HL.out.drew.trans (hbn.mono (by simp; omega))); have HTd : Hid (utabs wn) := utabs_below HT.out HL.out; have hcq := cell_of_heap HQ.out; have hcx := cell_of_heap HX.out; clear hbn)))
        | fail
      all_goals
        go_wp2
        go_ret
        exact ⟨rfl, by first | exact HL.out | exact HL.out.drew⟩
    · have p1 := hBy.out rfl
      have HR' : Hid _ := HR.out
      rw [hBk.out rfl] at HR'
      clear hBk hBn hBy HR
      have HR : Hid _ := HR'.out
      clear HR'
      go_wp2
      first
        | (go_region_with (first
          | (go_at_call 10; refine (HR.out _ ?_).mono ?_; exact HTd.out; rintro e wn ⟨rfl, hbn⟩; have hzn : w4.heap.size < wn.heap.size := (by have hz := hbn.size; (try simp at hz); omega); have HQ : Hid (wn.heap[w1.heap.size]? = some (recObj k t d)) := (hbn.block w1.heap.size (by first | omega | (simp; omega))).trans HQ.out; have HX : Hid (wn.heap[w4.heap.size]? = some (outObj k' t' d' ((0 : Nat) : Int))) := (hbn.block w4.heap.size (by first | omega | (simp; omega))).trans HX.out; have HL : Hid (Below w.heap.size w wn) := (by first | exact HL.out.trans (hbn.mono (by omega)) | exact HL.out.drew.trans (hbn.mono (by simp; omega))); have HTd : Hid (utabs wn) := utabs_below HT.out HL.out; have hcq := cell_of_heap HQ.out; have hcx := cell_of_heap HX.out; clear hbn)
          | (go_at_call 8; refine (HZ.out _ ?_).mono ?_; exact HTd.out; rintro e wn ⟨rfl, hbn⟩; have hzn : w4.heap.size < wn.heap.size := (by have hz := hbn.size; (try simp at hz); omega); have HQ : Hid (wn.heap[w1.heap.size]? = some (recObj k t d)) := (hbn.block w1.heap.size (by first | omega | (simp; omega))).trans HQ.out; have HX : Hid (wn.heap[w4.heap.size]? = some (outObj k' t' d' ((0 : Nat) : Int))) := (hbn.block w4.heap.size (by first | omega | (simp; omega))).trans HX.out; have HL : Hid (Below w.heap.size w wn) := (by first | exact HL.out.trans (hbn.mono (by omega)) | exact HL.out.drew.trans (hbn.mono (by simp; omega))); have HTd : Hid (utabs wn) := utabs_below HT.out HL.out; have hcq := cell_of_heap HQ.out; have hcx := cell_of_heap HX.out; clear hbn)))
        | fail
      all_goals
        go_wp2
        go_ret
        exact ⟨rfl, by first | exact HL.out | exact HL.out.drew⟩
  · have p6 : ((c' : Int) != 0) = true := by rw [bne_iff_ne]; omega
    have HZ : Hid (∀ w, utabs w → Calls Tryd.prog 8 #[recV 0 0 ⟨#[]⟩] w fun e w' => e = .returned (.string ⟨(recBytes 0 0 ⟨#[]⟩).toArray⟩) ∧ Below w.heap.size w w') := fun w h => impl_recBytes 0 0 ⟨#[]⟩ w (Nat.zero_le _) h
    clear HRES hc
    cases R
    · have p1 := hBn.out rfl
      clear hBk hBn hBy
      go_wp2
      first
        | (go_region_with (first
          | (go_at_call 10; refine (HR.out _ ?_).mono ?_; exact HTd.out; rintro e wn ⟨rfl, hbn⟩; have hzn : w4.heap.size < wn.heap.size := (by have hz := hbn.size; (try simp at hz); omega); have HQ : Hid (wn.heap[w1.heap.size]? = some (recObj k t d)) := (hbn.block w1.heap.size (by first | omega | (simp; omega))).trans HQ.out; have HX : Hid (wn.heap[w4.heap.size]? = some (outObj k' t' d' c')) := (hbn.block w4.heap.size (by first | omega | (simp; omega))).trans HX.out; have HL : Hid (Below w.heap.size w wn) := (by first | exact HL.out.trans (hbn.mono (by omega)) | exact HL.out.drew.trans (hbn.mono (by simp; omega))); have HTd : Hid (utabs wn) := utabs_below HT.out HL.out; have hcq := cell_of_heap HQ.out; have hcx := cell_of_heap HX.out; clear hbn)
          | (go_at_call 8; refine (HZ.out _ ?_).mono ?_; exact HTd.out; rintro e wn ⟨rfl, hbn⟩; have hzn : w4.heap.size < wn.heap.size := (by have hz := hbn.size; (try simp at hz); omega); have HQ : Hid (wn.heap[w1.heap.size]? = some (recObj k t d)) := (hbn.block w1.heap.size (by first | omega | (simp; omega))).trans HQ.out; have HX : Hid (wn.heap[w4.heap.size]? = some (outObj k' t' d' c')) := (hbn.block w4.heap.size (by first | omega | (simp; omega))).trans HX.out; have HL : Hid (Below w.heap.size w wn) := (by first | exact HL.out.trans (hbn.mono (by omega)) | exact HL.out.drew.trans (hbn.mono (by simp; omega))); have HTd : Hid (utabs wn) := utabs_below HT.out HL.out; have hcq := cell_of_heap HQ.out; have hcx := cell_of_heap HX.out; clear hbn)))
        | fail
      all_goals
        go_wp2
        go_ret
        exact ⟨rfl, by first | exact HL.out | exact HL.out.drew⟩
    · have p1 := hBy.out rfl
      have HR' : Hid _ := HR.out
      rw [hBk.out rfl] at HR'
      clear hBk hBn hBy HR
      have HR : Hid _ := HR'.out
      clear HR'
      go_wp2
      first
        | (go_region_with (first
          | (go_at_call 10; refine (HR.out _ ?_).mono ?_; exact HTd.out; rintro e wn ⟨rfl, hbn⟩; have hzn : w4.heap.size < wn.heap.size := (by have hz := hbn.size; (try simp at hz); omega); have HQ : Hid (wn.heap[w1.heap.size]? = some (recObj k t d)) := (hbn.block w1.heap.size (by first | omega | (simp; omega))).trans HQ.out; have HX : Hid (wn.heap[w4.heap.size]? = some (outObj k' t' d' c')) := (hbn.block w4.heap.size (by first | omega | (simp; omega))).trans HX.out; have HL : Hid (Below w.heap.size w wn) := (by first | exact HL.out.trans (hbn.mono (by omega)) | exact HL.out.drew.trans (hbn.mono (by simp; omega))); have HTd : Hid (utabs wn) := utabs_below HT.out HL.out; have hcq := cell_of_heap HQ.out; have hcx := cell_of_heap HX.out; clear hbn)
          | (go_at_call 8; refine (HZ.out _ ?_).mono ?_; exact HTd.out; rintro e wn ⟨rfl, hbn⟩; have hzn : w4.heap.size < wn.heap.size := (by have hz := hbn.size; (try simp at hz); omega); have HQ : Hid (wn.heap[w1.heap.size]? = some (recObj k t d)) := (hbn.block w1.heap.size (by first | omega | (simp; omega))).trans HQ.out; have HX : Hid (wn.heap[w4.heap.size]? = some (outObj k' t' d' c')) := (hbn.block w4.heap.size (by first | omega | (simp; omega))).trans HX.out; have HL : Hid (Below w.heap.size w wn) := (by first | exact HL.out.trans (hbn.mono (by omega)) | exact HL.out.drew.trans (hbn.mono (by simp; omega))); have HTd : Hid (utabs wn) := utabs_below HT.out HL.out; have hcq := cell_of_heap HQ.out; have hcx := cell_of_heap HX.out; clear hbn)))
        | fail
      all_goals
        go_wp2
        go_ret
        exact ⟨rfl, by first | exact HL.out | exact HL.out.drew⟩
end Go.Proofs.YtbafkhfkijmjcaaDoor
