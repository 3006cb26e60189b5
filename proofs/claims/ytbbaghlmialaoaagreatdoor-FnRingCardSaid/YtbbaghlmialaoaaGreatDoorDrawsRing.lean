import Derived.Test.YtbbaghlmialaoaaGreatDoorDraws3
import Derived.Test.YtbbaghlmialaoaaGreatDoorSpecPut
import Derived.Test.YtbbaghlmialaoaaGreatDoorSpecMove
import Derived.Test.YtbbaghlmialaoaaGreatDoorRingAtI
import Derived.Test.YtbbaghlmialaoaaGreatDoorRingStay2
import Derived.Deep.DeepCutAuto
import Derived.Deep.DrawnRows
/- A drawn record, said again: nothing old has turned but the source. -/
namespace Go.Proofs.YtbbaghlmialaoaaGreatDoor
open Go.RowKit
/-- Nothing old has turned but block g. -/
structure DG (g : Nat) (w X : World) : Prop where
  on : w.grownBy X (some g)
theorem DG.of (g : Nat) {w X : World} (h : Below w.heap.size w X) : DG g w X := ⟨h.os, h.tape, h.output, h.size, fun k hk _ => h.block k hk⟩
theorem DG.grown {g : Nat} {w X Y : World} (h : DG g w X) (hg : X.grownBy Y (some g)) (_hz : g ≤ X.heap.size) (_hr : ∀ k, some g = some k → g ≤ k) : DG g w Y :=
  ⟨hg.os.trans h.on.os, hg.tape.trans h.on.tape, hg.output.trans h.on.output, Nat.le_trans h.on.size hg.size, fun k hk hne => (hg.block k (Nat.lt_of_lt_of_le hk h.on.size) hne).trans (h.on.block k hk hne)⟩
theorem DG.trans {g : Nat} {w X Y : World} (h : DG g w X) (hb : Below w.heap.size X Y) : DG g w Y :=
  ⟨hb.os.trans h.on.os, hb.tape.trans h.on.tape, hb.output.trans h.on.output, Nat.le_trans h.on.size hb.size, fun k hk hne => (hb.block k hk).trans (h.on.block k hk hne)⟩
set_option maxRecDepth 100000 in
set_option maxHeartbeats 4000000 in
theorem src_recG (g : Nat) (w : World) (a : Option Addr) (len cap B : Nat) (hl : len ≤ 1048576) (hs : Src w g a len cap) (hb : Bytes B w a len) (hB : B ≤ g) (hg : g < w.heap.size) :
    Calls Tryz.prog 44 #[.pointer (some ⟨g, 0, none⟩)] w fun e w' => ∃ (k t : Int) (d : ByteArray), e = .returned (recV k t d) ∧ recDrawn k t d ∧ Src w' g a len cap ∧ DG g w w' := by
  have hal : Below w.heap.size w (w.alloc (recObj 0 0 ⟨#[]⟩)) := (Below.refl _ _).alloc (Nat.le_refl _) _
  have HS : Hid _ := src_below hs hal hg
  have HB : Hid _ := bytes_below hb hal (by omega)
  have HL : Hid (DG g w (w.alloc (recObj 0 0 ⟨#[]⟩))) := DG.of g hal
  have HR : Hid ((w.alloc (recObj 0 0 ⟨#[]⟩)).heap[w.heap.size]? = some (recObj 0 0 ⟨#[]⟩)) := heap_alloc_new w _
  clear hs hb hal
  go_enter Tryz.func44, Tryz.ntmps44
  go_wp2_with fail
  refine (src_n g 3 _ a len cap B (by omega) (by omega) hl HS.out HB.out hB).mono ?_
  rintro e w1 ⟨r1, rfl, hr1, hs1, hg1⟩
  have hz1 : w.heap.size < w1.heap.size := by have h := hg1.size; simp at h; omega
  have HR1 : Hid (w1.heap[w.heap.size]? = some (recObj 0 0 ⟨#[]⟩)) := (bytes_lt_grown hg1 (by simp) (by omega)).trans HR.out
  have HL1 : Hid (DG g w w1) := HL.out.grown hg1 (by simp; omega) (fun k hk => by simp at hk; omega)
  have HB1 : Hid _ := bytes_grown HB.out hg1 hB
  have hal1 : Below w1.heap.size w1 (w1.alloc (.cells #[.string ⟨#[97]⟩, .string ⟨#[98, 98]⟩, .string ⟨#[]⟩, .string ⟨#[99, 99, 99]⟩] 9)) := (Below.refl _ _).alloc (Nat.le_refl _) _
  have HS1 : Hid _ := src_below hs1 hal1 (by omega)
  have HB1a : Hid _ := bytes_below HB1.out hal1 (by omega)
  have HL1a : Hid _ := HL1.out.trans (hal1.mono (by omega))
  have HR1a : Hid _ := (hal1.block w.heap.size hz1).trans HR1.out
  have hpk : Hid (∀ i, i < 4 → ∃ d : ByteArray, (w1.alloc (.cells #[.string ⟨#[97]⟩, .string ⟨#[98, 98]⟩, .string ⟨#[]⟩, .string ⟨#[99, 99, 99]⟩] 9)).cell? ⟨w1.heap.size, i, none⟩ = some (.string d) ∧ d.size ≤ 3) := by
    intro i hi
    rw [cell_of_heap (heap_alloc_new w1 _) i]
    rcases (show i = 0 ∨ i = 1 ∨ i = 2 ∨ i = 3 by omega) with e | e | e | e <;> subst e
    · exact ⟨_, rfl, by decide⟩
    · exact ⟨_, rfl, by decide⟩
    · exact ⟨_, rfl, by decide⟩
    · exact ⟨_, rfl, by decide⟩
  clear hs1 hg1 hal1
  go_wp2_with fail
  refine (src_pick g w1.heap.size 4 3 _ a len cap B (by omega) (by omega) hl HS1.out HB1a.out hB (by omega) hpk.out).mono ?_
  rintro e w2 ⟨d, rfl, hd, hs2, hg2⟩
  have hz2 : w.heap.size < w2.heap.size := by have h := hg2.size; simp at h; omega
  have HR2 : Hid (w2.heap[w.heap.size]? = some (recObj 0 0 ⟨#[]⟩)) := (bytes_lt_grown hg2 (by simp; omega) (by omega)).trans HR1a.out
  have HL2 : Hid (DG g w w2) := HL1a.out.grown hg2 (by simp; omega) (fun k hk => by simp at hk; omega)
  have HB2 : Hid _ := bytes_grown HB1a.out hg2 hB
  have hal2 : Below w2.heap.size w2 (w2.alloc (recObj 1 (1 + (r1 : Int)) d)) := (Below.refl _ _).alloc (Nat.le_refl _) _
  have HS2 : Hid _ := src_below hs2 hal2 (by omega)
  have HB2a : Hid _ := bytes_below HB2.out hal2 (by omega)
  have HL2a : Hid _ := HL2.out.trans (hal2.mono (by omega))
  have HR2a : Hid _ := (hal2.block w.heap.size hz2).trans HR2.out
  have HQ2 : Hid ((w2.alloc (recObj 1 (1 + (r1 : Int)) d)).heap[w2.heap.size]? = some (recObj 1 (1 + (r1 : Int)) d)) := heap_alloc_new w2 _
  clear hs2 hg2 hal2 HS1 HB1a HL1a HR1a hpk HR1 HL1 HB1 HS HB HL HR
  go_wp2_with fail
  refine (src_one g 3 _ a len cap B (by omega) (by omega) hl HS2.out HB2a.out hB).mono ?_
  rintro e w3 ⟨r2, rfl, hr2, hs3, hg3⟩
  have hz3 : w2.heap.size < w3.heap.size := by have h := hg3.size; simp at h; omega
  have HR3 : Hid (w3.heap[w.heap.size]? = some (recObj 0 0 ⟨#[]⟩)) := (bytes_lt_grown hg3 (by simp; omega) (by omega)).trans HR2a.out
  have HQ3 : Hid (w3.heap[w2.heap.size]? = some (recObj 1 (1 + (r1 : Int)) d)) := (bytes_lt_grown hg3 (by simp) (by omega)).trans HQ2.out
  have HL3 : Hid (DG g w w3) := HL2a.out.grown hg3 (by simp; omega) (fun k hk => by simp at hk; omega)
  have HB3 : Hid _ := bytes_grown HB2a.out hg3 hB
  have HS3 : Hid _ := hs3
  clear hs3 hg3 HS2 HB2a HL2a HR2a HQ2 HL2 HB2 HR2
  go_upto_if 12 with fail
  go_cut [] (fun wc => ∃ (k t : Int) (x : ByteArray), Hid (recDrawn k t x) ∧ Hid (w2.heap.size < wc.heap.size) ∧ Hid (wc.heap[w.heap.size]? = some (recObj 0 0 ⟨#[]⟩)) ∧ Hid (wc.heap[w2.heap.size]? = some (recObj k t x)) ∧ Hid (Src wc g a len cap) ∧ Hid (Bytes B wc a len) ∧ Hid (DG g w wc))
  case first =>
    by_cases h0 : r2 = 0
    · have h0b : ((r2 : Int) == 0) = true := by rw [beq_iff_eq]; omega
      clear h0
      go_wp2_with fail
      refine (src_n g 2 _ a len cap B (by omega) (by omega) hl HS3.out HB3.out hB).mono ?_
      rintro e w4 ⟨r3, rfl, hr3, hs4, hg4⟩
      have hz4 : w2.heap.size < w4.heap.size := by have h := hg4.size; omega
      have HR4 : Hid (w4.heap[w.heap.size]? = some (recObj 0 0 ⟨#[]⟩)) := (bytes_lt_grown hg4 (by omega) (by omega)).trans HR3.out
      have HQ4 : Hid (w4.heap[w2.heap.size]? = some (recObj 1 (1 + (r1 : Int)) d)) := (bytes_lt_grown hg4 (by omega) (by omega)).trans HQ3.out
      have HL4 : Hid (DG g w w4) := HL3.out.grown hg4 (by omega) (fun k hk => by simp at hk; omega)
      have HB4 : Hid _ := bytes_grown HB3.out hg4 hB
      have HS4 : Hid _ := hs4
      clear hs4 hg4
      go_wp2_with fail
      refine (src_n g 3 _ a len cap B (by omega) (by omega) hl HS4.out HB4.out hB).mono ?_
      rintro e w5 ⟨r4, rfl, hr4, hs5, hg5⟩
      have hz5 : w2.heap.size < w5.heap.size := by have h := hg5.size; omega
      have HR5 : Hid (w5.heap[w.heap.size]? = some (recObj 0 0 ⟨#[]⟩)) := (bytes_lt_grown hg5 (by omega) (by omega)).trans HR4.out
      have HQ5 : Hid (w5.heap[w2.heap.size]? = some (recObj 1 (1 + (r1 : Int)) d)) := (bytes_lt_grown hg5 (by omega) (by omega)).trans HQ4.out
      have HL5 : Hid (DG g w w5) := HL4.out.grown hg5 (by omega) (fun k hk => by simp at hk; omega)
      have HB5 : Hid _ := bytes_grown HB4.out hg5 hB
      have HS5 : Hid _ := hs5
      clear hs5 hg5
      have hc5 := cell_of_heap HQ5.out
      have hf5 := frozen_of_heap HQ5.out
      go_wp2_with fail
      go_meet
      have hst : Below w2.heap.size w5 (((w5.setCell ⟨w2.heap.size, 0, none⟩ (.int .i64 (2 + (r3 : Int)))).setCell ⟨w2.heap.size, 1, none⟩ (.int .i64 (1 + (r4 : Int)))).setCell ⟨w2.heap.size, 2, none⟩ (.string ⟨#[]⟩)) :=
        (((Below.refl _ _).setCell (p := ⟨w2.heap.size, 0, none⟩) (Nat.le_refl _) _).setCell (p := ⟨w2.heap.size, 1, none⟩) (Nat.le_refl _) _).setCell (p := ⟨w2.heap.size, 2, none⟩) (Nat.le_refl _) _
      have hlt2 : g < w2.heap.size := by omega
      exact ⟨2 + (r3 : Int), 1 + (r4 : Int), ⟨#[]⟩, ⟨by omega, by omega, Nat.zero_le _⟩, by show w2.heap.size < _; have h := hst.size; omega, (hst.block w.heap.size hz2).trans HR5.out,
        heap_setCell_same _ _ 2 _ _ _ (heap_setCell_same _ _ 1 _ _ _ (heap_setCell_same _ _ 0 _ _ _ HQ5.out)), src_below HS5.out hst hlt2, bytes_below HB5.out hst (by omega), HL5.out.trans (hst.mono (by omega))⟩
    · have h0b : ((r2 : Int) == 0) = false := by rw [beq_eq_false_iff_ne]; omega
      clear h0
      go_wp2_with fail
      go_meet
      exact ⟨1, 1 + (r1 : Int), d, ⟨by omega, by omega, by omega⟩, hz3, HR3, HQ3, HS3, HB3, HL3⟩
  case rest =>
  obtain ⟨k, t, x, hkt, hzc, hRc, hQc, hSc, hBc, hLc⟩ := hcut
  clear HS3 HB3 HL3 HR3 HQ3 hr1 hr2 hd hz3 hz1
  have hzc' := hzc.out
  go_wp2_with fail
  refine (src_one g 15 _ a len cap B (by omega) (by omega) hl hSc.out hBc.out hB).mono ?_
  rintro e w6 ⟨r5, rfl, hr5, hs6, hg6⟩
  have hz6 : w2.heap.size < w6.heap.size := by have h := hg6.size; omega
  have HR6 : Hid (w6.heap[w.heap.size]? = some (recObj 0 0 ⟨#[]⟩)) := (bytes_lt_grown hg6 (by omega) (by omega)).trans hRc.out
  have HQ6 : Hid (w6.heap[w2.heap.size]? = some (recObj k t x)) := (bytes_lt_grown hg6 (by omega) (by omega)).trans hQc.out
  have HL6 : Hid (DG g w w6) := hLc.out.grown hg6 (by omega) (fun k hk => by simp at hk; omega)
  have HB6 : Hid _ := bytes_grown hBc.out hg6 hB
  have HS6 : Hid _ := hs6
  clear hs6 hg6 hRc hQc hSc hBc hLc hzc hzc'
  go_upto_if 21 with fail
  go_cut [] (fun wc => ∃ (k t : Int) (x : ByteArray), Hid (recDrawn k t x) ∧ Hid (w2.heap.size < wc.heap.size) ∧ Hid (wc.heap[w.heap.size]? = some (recObj 0 0 ⟨#[]⟩)) ∧ Hid (wc.heap[w2.heap.size]? = some (recObj k t x)) ∧ Hid (Src wc g a len cap) ∧ Hid (DG g w wc))
  case first =>
    by_cases h0 : r5 = 0
    · have h0b : ((r5 : Int) == 0) = true := by rw [beq_iff_eq]; omega
      clear h0
      go_wp2_with fail
      refine (src_n g 3 _ a len cap B (by omega) (by omega) hl HS6.out HB6.out hB).mono ?_
      rintro e w7 ⟨r6, rfl, hr6, hs7, hg7⟩
      have hz7 : w2.heap.size < w7.heap.size := by have h := hg7.size; omega
      have HR7 : Hid (w7.heap[w.heap.size]? = some (recObj 0 0 ⟨#[]⟩)) := (bytes_lt_grown hg7 (by omega) (by omega)).trans HR6.out
      have HQ7 : Hid (w7.heap[w2.heap.size]? = some (recObj k t x)) := (bytes_lt_grown hg7 (by omega) (by omega)).trans HQ6.out
      have HL7 : Hid (DG g w w7) := HL6.out.grown hg7 (by omega) (fun k hk => by simp at hk; omega)
      have HB7 : Hid _ := bytes_grown HB6.out hg7 hB
      have HS7 : Hid _ := hs7
      clear hs7 hg7 HS6 HB6 HL6 HR6 HQ6
      have hlt2 : g < w2.heap.size := by omega
      by_cases hA : r6 = 0
      · have hAb : ((r6 : Int) == 0) = true := by rw [beq_iff_eq]; omega
        clear hA
        go_wp2_with fail
        refine (src_n g 5 _ a len cap B (by omega) (by omega) hl HS7.out HB7.out hB).mono ?_
        rintro e w8 ⟨r7, rfl, hr7, hs8, hg8⟩
        have hz8 : w2.heap.size < w8.heap.size := by have h := hg8.size; omega
        have HR8 : Hid (w8.heap[w.heap.size]? = some (recObj 0 0 ⟨#[]⟩)) := (bytes_lt_grown hg8 (by omega) (by omega)).trans HR7.out
        have HQ8 : Hid (w8.heap[w2.heap.size]? = some (recObj k t x)) := (bytes_lt_grown hg8 (by omega) (by omega)).trans HQ7.out
        have HL8 : Hid (DG g w w8) := HL7.out.grown hg8 (by omega) (fun k hk => by simp at hk; omega)
        have HS8 : Hid _ := hs8
        clear hs8 hg8
        have hc8 := cell_of_heap HQ8.out
        have hf8 := frozen_of_heap HQ8.out
        go_wp2_with fail
        go_meet
        have hst : Below w2.heap.size w8 (w8.setCell ⟨w2.heap.size, 0, none⟩ (.int .i64 (r7 : Int))) := (Below.refl _ _).setCell (p := ⟨w2.heap.size, 0, none⟩) (Nat.le_refl _) _
        exact ⟨(r7 : Int), t, x, ⟨by omega, hkt.out.2.1, hkt.out.2.2⟩, by show w2.heap.size < _; have h := hst.size; omega, (hst.block w.heap.size hz2).trans HR8.out, heap_setCell_same _ _ 0 _ _ _ HQ8.out, src_below HS8.out hst hlt2, HL8.out.trans (hst.mono (by omega))⟩
      · have hAb : ((r6 : Int) == 0) = false := by rw [beq_eq_false_iff_ne]; omega
        by_cases hC : r6 = 1
        · have hCb : ((r6 : Int) == 1) = true := by rw [beq_iff_eq]; omega
          clear hA hC
          have hal7 : Below w7.heap.size w7 (w7.alloc (.cells #[.int .i64 0, .int .i64 1000000, .int .i64 1000001] 2)) := (Below.refl _ _).alloc (Nat.le_refl _) _
          have HS7a : Hid _ := src_below HS7.out hal7 (by omega)
          have HB7a : Hid _ := bytes_below HB7.out hal7 (by omega)
          have HL7a : Hid _ := HL7.out.trans (hal7.mono (by omega))
          have HR7a : Hid _ := (hal7.block w.heap.size (by omega)).trans HR7.out
          have HQ7a : Hid _ := (hal7.block w2.heap.size hz7).trans HQ7.out
          clear hal7
          go_wp2_with fail
          refine (src_n g 3 _ a len cap B (by omega) (by omega) hl HS7a.out HB7a.out hB).mono ?_
          rintro e w8 ⟨r7, rfl, hr7, hs8, hg8⟩
          have hz8 : w2.heap.size < w8.heap.size := by have h := hg8.size; simp at h; omega
          have HR8 : Hid (w8.heap[w.heap.size]? = some (recObj 0 0 ⟨#[]⟩)) := (bytes_lt_grown hg8 (by simp; omega) (by omega)).trans HR7a.out
          have HQ8 : Hid (w8.heap[w2.heap.size]? = some (recObj k t x)) := (bytes_lt_grown hg8 (by simp; omega) (by omega)).trans HQ7a.out
          have HL8 : Hid (DG g w w8) := HL7a.out.grown hg8 (by simp; omega) (fun k hk => by simp at hk; omega)
          have HS8 : Hid _ := hs8
          obtain ⟨v, hv, hvb⟩ : ∃ v : Int, (#[.int .i64 0, .int .i64 1000000, .int .i64 1000001] : Array Value)[r7]? = some (.int .i64 v) ∧ Hid (0 ≤ v ∧ v ≤ 1000001) := by
            rcases (show r7 = 0 ∨ r7 = 1 ∨ r7 = 2 by omega) with e | e | e <;> subst e
            · exact ⟨_, rfl, by constructor <;> decide⟩
            · exact ⟨_, rfl, by constructor <;> decide⟩
            · exact ⟨_, rfl, by constructor <;> decide⟩
          have hcell : w8.cell? ⟨w7.heap.size, r7, none⟩ = some (.int .i64 v) := hg8.cell (a := ⟨w7.heap.size, r7, none⟩) ((cell_of_heap (heap_alloc_new w7 _) r7).trans hv) (by simp; omega)
          clear hs8 hg8 hv
          have hc8 := cell_of_heap HQ8.out
          have hf8 := frozen_of_heap HQ8.out
          go_wp2_with fail
          go_meet
          have hst : Below w2.heap.size w8 (w8.setCell ⟨w2.heap.size, 1, none⟩ (.int .i64 v)) := (Below.refl _ _).setCell (p := ⟨w2.heap.size, 1, none⟩) (Nat.le_refl _) _
          exact ⟨k, v, x, ⟨hkt.out.1, hvb.out, hkt.out.2.2⟩, by show w2.heap.size < _; have h := hst.size; omega, (hst.block w.heap.size hz2).trans HR8.out, heap_setCell_same _ _ 1 _ _ _ HQ8.out, src_below HS8.out hst hlt2, HL8.out.trans (hst.mono (by omega))⟩
        · have hCb : ((r6 : Int) == 1) = false := by rw [beq_eq_false_iff_ne]; omega
          clear hA hC
          go_wp2_with fail
          refine (src_n g 3 _ a len cap B (by omega) (by omega) hl HS7.out HB7.out hB).mono ?_
          rintro e w8 ⟨r7, rfl, hr7, hs8, hg8⟩
          have hz8 : w2.heap.size < w8.heap.size := by have h := hg8.size; omega
          have HR8 : Hid (w8.heap[w.heap.size]? = some (recObj 0 0 ⟨#[]⟩)) := (bytes_lt_grown hg8 (by omega) (by omega)).trans HR7.out
          have HQ8 : Hid (w8.heap[w2.heap.size]? = some (recObj k t x)) := (bytes_lt_grown hg8 (by omega) (by omega)).trans HQ7.out
          have HL8 : Hid (DG g w w8) := HL7.out.grown hg8 (by omega) (fun k hk => by simp at hk; omega)
          have HS8 : Hid _ := hs8
          clear hs8 hg8
          obtain ⟨Z, hZ, hmk⟩ := mk_zeros (15 + r7) (15 + (r7 : Int)) (by omega) (by omega)
          have hcv := conv_zeros w8 Z (15 + r7) hZ.out (by omega)
          have hal8 : Below w8.heap.size w8 (w8.alloc (.cells Z.toArray 5)) := (Below.refl _ _).alloc (Nat.le_refl _) _
          have HQ8a : Hid _ := (hal8.block w2.heap.size hz8).trans HQ8.out
          have HR8a : Hid _ := (hal8.block w.heap.size (by omega)).trans HR8.out
          have hc8 := cell_of_heap HQ8.out
          have hf8 := frozen_of_heap HQ8.out
          go_wp2_with fail
          go_meet
          have hst : Below w2.heap.size w8 ((w8.setCell ⟨w2.heap.size, 2, none⟩ (.string ⟨(List.replicate (15 + r7) (0 : UInt8)).toArray⟩)).alloc (.cells Z.toArray 5)) := ((Below.refl _ _).setCell (p := ⟨w2.heap.size, 2, none⟩) (Nat.le_refl _) _).alloc (by simp; omega) _
          refine ⟨k, t, ⟨(List.replicate (15 + r7) (0 : UInt8)).toArray⟩, ⟨hkt.out.1, hkt.out.2.1, by rw [size_mk, List.length_replicate]; omega⟩, Nat.lt_of_lt_of_le hz8 hst.size, (hst.block w.heap.size hz2).trans HR8.out, ?_, src_below HS8.out hst hlt2, HL8.out.trans (hst.mono (by omega))⟩
          have hbl : ((w8.setCell ⟨w2.heap.size, 2, none⟩ (.string ⟨(List.replicate (15 + r7) (0 : UInt8)).toArray⟩)).alloc (.cells Z.toArray 5)).heap[w2.heap.size]? = _ := ((Below.refl (w8.setCell ⟨w2.heap.size, 2, none⟩ (.string ⟨(List.replicate (15 + r7) (0 : UInt8)).toArray⟩)).heap.size _).alloc (Nat.le_refl _) _).block w2.heap.size (by simp; omega)
          exact hbl.trans (heap_setCell_same _ _ 2 _ _ _ HQ8.out)
    · have h0b : ((r5 : Int) == 0) = false := by rw [beq_eq_false_iff_ne]; omega
      clear h0
      go_wp2_with fail
      go_meet
      exact ⟨k, t, x, hkt, hz6, HR6, HQ6, HS6, HL6⟩
  case rest =>
  obtain ⟨k', t', x', hkt', hzc, hRc, hQc, hSc, hLc⟩ := hcut
  clear HS6 HB6 HL6 HR6 HQ6 hkt
  have hq := cell_of_heap hQc.out
  have hr := cell_of_heap hRc.out
  have hf := frozen_of_heap hRc.out
  have hlt : g < w.heap.size := hg
  have hst : Below w.heap.size wc (((wc.setCell ⟨w.heap.size, 0, none⟩ (.int .i64 k')).setCell ⟨w.heap.size, 1, none⟩ (.int .i64 t')).setCell ⟨w.heap.size, 2, none⟩ (.string x')) :=
    (((Below.refl _ _).setCell (p := ⟨w.heap.size, 0, none⟩) (Nat.le_refl _) _).setCell (p := ⟨w.heap.size, 1, none⟩) (Nat.le_refl _) _).setCell (p := ⟨w.heap.size, 2, none⟩) (Nat.le_refl _) _
  have HST : Hid _ := hst
  clear hst
  go_wp2
  exact bodyPost_ret (v := recV k' t' x') (by simp [results, Tryz.results44, go_sem, hr]) rfl ⟨k', t', x', rfl, hkt'.out, src_below hSc.out HST.out hlt, hLc.out.trans (HST.out.mono (by omega))⟩
end Go.Proofs.YtbbaghlmialaoaaGreatDoor
/- While a ring is drawn: what stands. -/
namespace Go.Proofs.YtbbaghlmialaoaaGreatDoor
open Go.RowKit
theorem own_cap0 {w : World} {base e size n m c : Nat} {a : Option Addr} {xs : List Value} (h : w.ownsRow base e size (.slice a n c) m xs) : c ≤ maxLen := by
  rcases h.2 with ⟨e1, _⟩ | ⟨g, cap, cur, e1, _, _, _, hm, _⟩
  · simp only [Value.slice.injEq] at e1
    rw [e1.2.2]
    unfold maxLen
    omega
  · simp only [Value.slice.injEq] at e1
    rw [e1.2.2]
    exact hm
theorem own_fit {w : World} {base : Nat} {a : Option Addr} {n q : Nat} {b : Option Addr} {m p : Nat} {rs : List ByteArray} {cs : List (Int × Int)} (h : OwnRing w base a n q b m p (rs.map Value.string) (curCells cs)) (hs : ∀ s ∈ rs, s.size ≤ 1048576) (hn : n ≤ 1048576) (hm : m ≤ 1048576) : RFit w a n q b m p rs cs := by
  obtain ⟨a1, q1, e1, h1⟩ := own_strIn h.1
  obtain ⟨a2, q2, e2, h2⟩ := own_curIn h.2
  simp only [Value.slice.injEq] at e1 e2
  obtain ⟨rfl, _, rfl⟩ := e1
  obtain ⟨rfl, _, rfl⟩ := e2
  exact ⟨h1, h2, hs, hn, hm, own_cap0 h.1, own_cap0 h.2⟩
theorem own_draw {w w1 : World} {base e size n g : Nat} {v : Value} {xs : List Value} (h : w.ownsRow base e size v n xs) (hg : w.grownBy w1 (some g)) (hb : g < base) : w1.ownsRow base e size v n xs :=
  h.kept hg (by
    cases hq : v.ownBlock with
    | none => exact .inl rfl
    | some i => exact .inr (fun e' => by simp at e'; have := (h.lt i hq).1; omega))
/-- The answer's box, the ring's own, its lists, and the source. -/
structure RG (w wr : World) (g : Nat) (aa : Option Addr) (len cap B : Nat) (T : Nat) (C F : Int) (a : Option Addr) (n q : Nat) (b : Option Addr) (m p : Nat) (rs : List ByteArray) (cs : List (Int × Int)) : Prop where
  res : wr.heap[w.heap.size]? = some (ringObj 0 0 none 0 0 none 0 0)
  box : wr.heap[T]? = some (ringObj C F a n q b m p)
  own : OwnRing wr (T + 1) a n q b m p (rs.map Value.string) (curCells cs)
  src : Src wr g aa len cap
  byt : Bytes B wr aa len
  dg : DG g w wr
  lt : w.heap.size < T
  gl : g < w.heap.size
  bg : B ≤ g
variable {w wr w1 : World} {g : Nat} {aa : Option Addr} {len cap B T : Nat} {C F : Int} {a : Option Addr} {n q : Nat} {b : Option Addr} {m p : Nat} {rs : List ByteArray} {cs : List (Int × Int)}
theorem RG.draw (h : RG w wr g aa len cap B T C F a n q b m p rs cs) (hs : Src w1 g aa len cap) (hg : wr.grownBy w1 (some g)) : RG w w1 g aa len cap B T C F a n q b m p rs cs := by
  have hlt := h.lt
  have hgl := h.gl
  have hbx := blk_lt h.box
  have hz := h.dg.on.size
  have hk : ∀ i, i ≠ g → some i ≠ some g := fun i hi e' => hi (by simpa using e')
  exact ⟨(hg.block _ (by omega) (hk _ (by omega))).trans h.res, (hg.block _ hbx (hk _ (by omega))).trans h.box, ⟨own_draw h.own.1 hg (by omega), own_draw h.own.2 hg (by omega)⟩, hs, bytes_grown h.byt hg h.bg, h.dg.grown hg (by omega) (fun k e' => by simp at e'; omega), h.lt, h.gl, h.bg⟩
theorem RG.under (h : RG w wr g aa len cap B T C F a n q b m p rs cs) (hb : Below wr.heap.size wr w1) : RG w w1 g aa len cap B T C F a n q b m p rs cs := by
  have hlt := h.lt
  have hgl := h.gl
  have hbx := blk_lt h.box
  have hz := h.dg.on.size
  exact ⟨blk h.res hb, blk h.box hb, h.own.below hb, src_below h.src hb (by omega), bytes_below h.byt hb (by have := h.bg; omega), h.dg.trans (hb.mono hz), h.lt, h.gl, h.bg⟩
theorem RG.drew (h : RG w wr g aa len cap B T C F a n q b m p rs cs) : RG w wr.drew g aa len cap B T C F a n q b m p rs cs := h.under ((Below.refl _ _).drew)
theorem RG.lens (h : RG w wr g aa len cap B T C F a n q b m p rs cs) : rs.length = n ∧ cs.length = m := by
  have h1 := h.own.1.1
  have h2 := h.own.2.1
  rw [curCells_length] at h2
  simp at h1
  omega
theorem RG.fit (h : RG w wr g aa len cap B T C F a n q b m p rs cs) (hr : ringRightB C F rs cs = true) (hs : ∀ s ∈ rs, s.size ≤ 100) : RFit wr a n q b m p rs cs := by
  have hl := h.lens
  obtain ⟨h1, h2, h3, h4, h5, _⟩ := (sright_iff ..).1 hr
  exact own_fit h.own (fun s hx => by have := hs s hx; omega) (by omega) (by omega)
theorem own_heap {u v : World} {base e size n : Nat} {x : Value} {xs : List Value} (h : u.ownsRow base e size x n xs) (hk : ∀ j, x.ownBlock = some j → v.heap[j]? = u.heap[j]?) : v.ownsRow base e size x n xs := by
  refine ⟨h.1, ?_⟩
  rcases h.2 with hn | ⟨g, cap, cur, rfl, hb, hg, rest⟩
  · exact .inl hn
  · exact .inr ⟨g, cap, cur, rfl, hb, (hk g rfl).trans hg, rest⟩
/-- A store into a block that none of it names. -/
theorem RG.other {Y : Nat} {v : World} (h : RG w wr g aa len cap B T C F a n q b m p rs cs) (hb : Below Y wr v) (hk : ∀ i, i ≠ Y → v.heap[i]? = wr.heap[i]?) (hY : T < Y) (h1 : ∀ j, (Value.slice a n q).ownBlock = some j → j < Y) (h2 : ∀ j, (Value.slice b m p).ownBlock = some j → j < Y) : RG w v g aa len cap B T C F a n q b m p rs cs := by
  have hlt := h.lt
  have hgl := h.gl
  have hbg := h.bg
  exact ⟨(hb.block _ (by omega)).trans h.res, (hb.block _ hY).trans h.box, ⟨own_heap h.own.1 (fun i e => hk i (by have := h1 i e; omega)), own_heap h.own.2 (fun i e => hk i (by have := h2 i e; omega))⟩, src_below h.src hb (by omega), bytes_below h.byt hb (by omega), h.dg.trans (hb.mono (by omega)), h.lt, h.gl, h.bg⟩
/-- Good rings alone are answered. -/
def GoodO (r : RO) : Prop := r.c = 0 → ringRightB r.cap r.first r.recs r.curs = true ∧ ∀ s ∈ r.recs, s.size ≤ 100
/-- Beside it: what a call has answered, in a box of its own. -/
structure RY (w wr : World) (g : Nat) (aa : Option Addr) (len cap B : Nat) (T : Nat) (C F : Int) (a : Option Addr) (n q : Nat) (b : Option Addr) (m p : Nat) (rs : List ByteArray) (cs : List (Int × Int)) (Y : Nat) (a' : Option Addr) (q' : Nat) (b' : Option Addr) (p' : Nat) (r : RO) : Prop where
  rg : RG w wr g aa len cap B T C F a n q b m p rs cs
  box : wr.heap[Y]? = some (outObj r.cap r.first a' r.recs.length q' b' r.curs.length p' r.k r.t r.d r.c)
  own : OwnRing wr (T + 1) a' r.recs.length q' b' r.curs.length p' (r.recs.map Value.string) (curCells r.curs)
  ty : T < Y
  low1 : ∀ j, (Value.slice a n q).ownBlock = some j → j < Y
  low2 : ∀ j, (Value.slice b m p).ownBlock = some j → j < Y
  good : GoodO r
variable {Y : Nat} {a' : Option Addr} {q' : Nat} {b' : Option Addr} {p' : Nat} {r : RO}
theorem RY.draw (h : RY w wr g aa len cap B T C F a n q b m p rs cs Y a' q' b' p' r) (hs : Src w1 g aa len cap) (hg : wr.grownBy w1 (some g)) : RY w w1 g aa len cap B T C F a n q b m p rs cs Y a' q' b' p' r := by
  have hlt := h.rg.lt
  have hgl := h.rg.gl
  have hty := h.ty
  have hbx := blk_lt h.box
  exact ⟨h.rg.draw hs hg, (hg.block _ hbx (fun e => by simp at e; omega)).trans h.box, ⟨own_draw h.own.1 hg (by omega), own_draw h.own.2 hg (by omega)⟩, h.ty, h.low1, h.low2, h.good⟩
theorem RY.under (h : RY w wr g aa len cap B T C F a n q b m p rs cs Y a' q' b' p' r) (hb : Below wr.heap.size wr w1) : RY w w1 g aa len cap B T C F a n q b m p rs cs Y a' q' b' p' r :=
  ⟨h.rg.under hb, blk h.box hb, h.own.below hb, h.ty, h.low1, h.low2, h.good⟩
theorem RY.drew (h : RY w wr g aa len cap B T C F a n q b m p rs cs Y a' q' b' p' r) : RY w wr.drew g aa len cap B T C F a n q b m p rs cs Y a' q' b' p' r := h.under ((Below.refl _ _).drew)
/-- The box behind the lists. -/
theorem ry_a {b6 : Nat} (h : RG w wr g aa len cap B T C F a n q b m p rs cs) (ho : OwnRing wr b6 a' r.recs.length q' b' r.curs.length p' (r.recs.map Value.string) (curCells r.curs)) (hb : T + 1 ≤ b6) (hg : GoodO r) :
    RY w (wr.alloc (outObj r.cap r.first a' r.recs.length q' b' r.curs.length p' r.k r.t r.d r.c)) g aa len cap B T C F a n q b m p rs cs wr.heap.size a' q' b' p' r :=
  ⟨h.under (below_new _ _), heap_alloc_new _ _, OwnRing.below ⟨ho.1.mono hb, ho.2.mono hb⟩ (below_new _ _), blk_lt h.box, fun j e => (h.own.1.lt j e).2, fun j e => (h.own.2.lt j e).2, hg⟩
/-- The lists behind the box, which stood already. -/
theorem ry_b {b6 : Nat} (h : RG w wr g aa len cap B T C F a n q b m p rs cs) (hx : wr.heap[Y]? = some outObj0) (hY : T < Y) (l1 : ∀ j, (Value.slice a n q).ownBlock = some j → j < Y) (l2 : ∀ j, (Value.slice b m p).ownBlock = some j → j < Y) (ho : OwnRing wr b6 a' r.recs.length q' b' r.curs.length p' (r.recs.map Value.string) (curCells r.curs)) (hb : Y < b6) (hg : GoodO r) :
    RY w (set8 wr Y (.int .i64 r.cap) (.int .i64 r.first) (.slice a' r.recs.length q') (.slice b' r.curs.length p') (.int .i64 r.k) (.int .i64 r.t) (.string r.d) (.int .i64 r.c)) g aa len cap B T C F a n q b m p rs cs Y a' q' b' p' r :=
  ⟨h.other (below_set8 (Below.refl _ _) Y (Nat.le_refl _) _ _ _ _ _ _ _ _) (fun i hi => heap_set8 wr Y i hi _ _ _ _ _ _ _ _) hY l1 l2, at_box hx, ⟨(own_set8 ho.1 Y hb _ _ _ _ _ _ _ _).mono (by omega), (own_set8 ho.2 Y hb _ _ _ _ _ _ _ _).mono (by omega)⟩, hY, l1, l2, hg⟩
theorem box8 {W : World} {Y : Nat} {u0 u1 u2 u3 u4 u5 u6 u7 v0 v1 v2 v3 v4 v5 v6 v7 : Value} {t : TypeId} (hx : W.heap[Y]? = some (.cells #[u0, u1, u2, u3, u4, u5, u6, u7] t (0, 0))) : (set8 W Y v0 v1 v2 v3 v4 v5 v6 v7).heap[Y]? = some (.cells #[v0, v1, v2, v3, v4, v5, v6, v7] t (0, 0)) := by
  have h0 : (W.setCell ⟨Y, 0, none⟩ v0).heap[Y]? = some (.cells #[v0, u1, u2, u3, u4, u5, u6, u7] t (0, 0)) := heap_setCell_same W Y 0 _ _ v0 hx
  have h1 : ((W.setCell ⟨Y, 0, none⟩ v0).setCell ⟨Y, 1, none⟩ v1).heap[Y]? = some (.cells #[v0, v1, u2, u3, u4, u5, u6, u7] t (0, 0)) := heap_setCell_same (W.setCell ⟨Y, 0, none⟩ v0) Y 1 _ _ v1 h0
  have h2 : (((W.setCell ⟨Y, 0, none⟩ v0).setCell ⟨Y, 1, none⟩ v1).setCell ⟨Y, 2, none⟩ v2).heap[Y]? = some (.cells #[v0, v1, v2, u3, u4, u5, u6, u7] t (0, 0)) := heap_setCell_same ((W.setCell ⟨Y, 0, none⟩ v0).setCell ⟨Y, 1, none⟩ v1) Y 2 _ _ v2 h1
  have h3 : ((((W.setCell ⟨Y, 0, none⟩ v0).setCell ⟨Y, 1, none⟩ v1).setCell ⟨Y, 2, none⟩ v2).setCell ⟨Y, 3, none⟩ v3).heap[Y]? = some (.cells #[v0, v1, v2, v3, u4, u5, u6, u7] t (0, 0)) := heap_setCell_same (((W.setCell ⟨Y, 0, none⟩ v0).setCell ⟨Y, 1, none⟩ v1).setCell ⟨Y, 2, none⟩ v2) Y 3 _ _ v3 h2
  have h4 : (((((W.setCell ⟨Y, 0, none⟩ v0).setCell ⟨Y, 1, none⟩ v1).setCell ⟨Y, 2, none⟩ v2).setCell ⟨Y, 3, none⟩ v3).setCell ⟨Y, 4, none⟩ v4).heap[Y]? = some (.cells #[v0, v1, v2, v3, v4, u5, u6, u7] t (0, 0)) := heap_setCell_same ((((W.setCell ⟨Y, 0, none⟩ v0).setCell ⟨Y, 1, none⟩ v1).setCell ⟨Y, 2, none⟩ v2).setCell ⟨Y, 3, none⟩ v3) Y 4 _ _ v4 h3
  have h5 : ((((((W.setCell ⟨Y, 0, none⟩ v0).setCell ⟨Y, 1, none⟩ v1).setCell ⟨Y, 2, none⟩ v2).setCell ⟨Y, 3, none⟩ v3).setCell ⟨Y, 4, none⟩ v4).setCell ⟨Y, 5, none⟩ v5).heap[Y]? = some (.cells #[v0, v1, v2, v3, v4, v5, u6, u7] t (0, 0)) := heap_setCell_same (((((W.setCell ⟨Y, 0, none⟩ v0).setCell ⟨Y, 1, none⟩ v1).setCell ⟨Y, 2, none⟩ v2).setCell ⟨Y, 3, none⟩ v3).setCell ⟨Y, 4, none⟩ v4) Y 5 _ _ v5 h4
  have h6 : (((((((W.setCell ⟨Y, 0, none⟩ v0).setCell ⟨Y, 1, none⟩ v1).setCell ⟨Y, 2, none⟩ v2).setCell ⟨Y, 3, none⟩ v3).setCell ⟨Y, 4, none⟩ v4).setCell ⟨Y, 5, none⟩ v5).setCell ⟨Y, 6, none⟩ v6).heap[Y]? = some (.cells #[v0, v1, v2, v3, v4, v5, v6, u7] t (0, 0)) := heap_setCell_same ((((((W.setCell ⟨Y, 0, none⟩ v0).setCell ⟨Y, 1, none⟩ v1).setCell ⟨Y, 2, none⟩ v2).setCell ⟨Y, 3, none⟩ v3).setCell ⟨Y, 4, none⟩ v4).setCell ⟨Y, 5, none⟩ v5) Y 6 _ _ v6 h5
  have h7 : ((((((((W.setCell ⟨Y, 0, none⟩ v0).setCell ⟨Y, 1, none⟩ v1).setCell ⟨Y, 2, none⟩ v2).setCell ⟨Y, 3, none⟩ v3).setCell ⟨Y, 4, none⟩ v4).setCell ⟨Y, 5, none⟩ v5).setCell ⟨Y, 6, none⟩ v6).setCell ⟨Y, 7, none⟩ v7).heap[Y]? = some (.cells #[v0, v1, v2, v3, v4, v5, v6, v7] t (0, 0)) := heap_setCell_same (((((((W.setCell ⟨Y, 0, none⟩ v0).setCell ⟨Y, 1, none⟩ v1).setCell ⟨Y, 2, none⟩ v2).setCell ⟨Y, 3, none⟩ v3).setCell ⟨Y, 4, none⟩ v4).setCell ⟨Y, 5, none⟩ v5).setCell ⟨Y, 6, none⟩ v6) Y 7 _ _ v7 h6
  exact h7
/-- Another answer is laid in the box. -/
theorem RY.over {a2 : Option Addr} {q2 : Nat} {b2 : Option Addr} {p2 b6 : Nat} {r2 : RO} (h : RY w wr g aa len cap B T C F a n q b m p rs cs Y a' q' b' p' r) (ho : OwnRing wr b6 a2 r2.recs.length q2 b2 r2.curs.length p2 (r2.recs.map Value.string) (curCells r2.curs)) (hb : Y < b6) (hg : GoodO r2) :
    RY w (set8 wr Y (.int .i64 r2.cap) (.int .i64 r2.first) (.slice a2 r2.recs.length q2) (.slice b2 r2.curs.length p2) (.int .i64 r2.k) (.int .i64 r2.t) (.string r2.d) (.int .i64 r2.c)) g aa len cap B T C F a n q b m p rs cs Y a2 q2 b2 p2 r2 := by
  have hty := h.ty
  exact ⟨h.rg.other (below_set8 (Below.refl _ _) Y (Nat.le_refl _) _ _ _ _ _ _ _ _) (fun i hi => heap_set8 wr Y i hi _ _ _ _ _ _ _ _) h.ty h.low1 h.low2, box8 h.box, ⟨(own_set8 ho.1 Y hb _ _ _ _ _ _ _ _).mono (by omega), (own_set8 ho.2 Y hb _ _ _ _ _ _ _ _).mono (by omega)⟩, h.ty, h.low1, h.low2, hg⟩
abbrev set4 (w : World) (T : Nat) (v0 v1 v2 v3 : Value) : World := (((w.setCell ⟨T, 0, none⟩ v0).setCell ⟨T, 1, none⟩ v1).setCell ⟨T, 2, none⟩ v2).setCell ⟨T, 3, none⟩ v3
theorem own_set4 {w : World} {base e size n : Nat} {v : Value} {xs : List Value} (h : w.ownsRow base e size v n xs) (T : Nat) (hb : T < base) (v0 v1 v2 v3 : Value) : (set4 w T v0 v1 v2 v3).ownsRow base e size v n xs :=
  ownsRow_setCell_below (ownsRow_setCell_below (ownsRow_setCell_below (ownsRow_setCell_below h (a := ⟨T, 0, none⟩) hb _) (a := ⟨T, 1, none⟩) hb _) (a := ⟨T, 2, none⟩) hb _) (a := ⟨T, 3, none⟩) hb _
theorem below_set4 {B : Nat} {a w : World} (h : Below B a w) (T : Nat) (hb : B ≤ T) (v0 v1 v2 v3 : Value) : Below B a (set4 w T v0 v1 v2 v3) :=
  (((h.setCell (p := ⟨T, 0, none⟩) hb _).setCell (p := ⟨T, 1, none⟩) hb _).setCell (p := ⟨T, 2, none⟩) hb _).setCell (p := ⟨T, 3, none⟩) hb _
/-- Another ring is laid in the ring's box. -/
theorem RG.put {C2 F2 : Int} {a2 : Option Addr} {n2 q2 : Nat} {b2 : Option Addr} {m2 p2 : Nat} {rs2 : List ByteArray} {cs2 : List (Int × Int)} (h : RG w wr g aa len cap B T C F a n q b m p rs cs) (ho : OwnRing wr (T + 1) a2 n2 q2 b2 m2 p2 (rs2.map Value.string) (curCells cs2)) :
    RG w (set4 wr T (.int .i64 C2) (.int .i64 F2) (.slice a2 n2 q2) (.slice b2 m2 p2)) g aa len cap B T C2 F2 a2 n2 q2 b2 m2 p2 rs2 cs2 := by
  have hlt := h.lt
  have hgl := h.gl
  have hbg := h.bg
  have hst : Below T wr (set4 wr T (.int .i64 C2) (.int .i64 F2) (.slice a2 n2 q2) (.slice b2 m2 p2)) := below_set4 (Below.refl _ _) T (Nat.le_refl _) _ _ _ _
  refine ⟨(hst.block _ hlt).trans h.res, ?_, ⟨own_set4 ho.1 T (Nat.lt_succ_self _) _ _ _ _, own_set4 ho.2 T (Nat.lt_succ_self _) _ _ _ _⟩, src_below h.src hst (by omega), bytes_below h.byt hst (by omega), h.dg.trans (hst.mono (by omega)), h.lt, h.gl, h.bg⟩
  exact heap_setCell_same _ _ 3 _ _ _ (heap_setCell_same _ _ 2 _ _ _ (heap_setCell_same _ _ 1 _ _ _ (heap_setCell_same _ _ 0 _ _ _ h.box)))
/-- What has been drawn so far: a right ring. -/
def RGX (w wr : World) (g : Nat) (aa : Option Addr) (len cap B T : Nat) : Prop := ∃ C F a n q b m p rs cs, RG w wr g aa len cap B T C F a n q b m p rs cs ∧ ringRightB C F rs cs = true ∧ ∀ s ∈ rs, s.size ≤ 100
theorem good_ill (c : Int) (h : c ≠ 0) : GoodO (RO.ill c) := fun e => absurd e h
theorem good_put {k t : Int} {d : ByteArray} (hs : ∀ s ∈ rs, s.size ≤ 100) : GoodO (putR C F rs cs k t d) := fun h => by
  obtain ⟨_, _, e, h4⟩ := put_stays h
  rw [e]
  refine ⟨h4, fun s hx => ?_⟩
  rcases List.mem_append.1 hx with hx | hx
  · exact hs s hx
  · rw [List.mem_singleton.1 hx]; exact recText_size k t d
theorem good_follow {x : Int} (hs : ∀ s ∈ rs, s.size ≤ 100) : GoodO (followR C F rs cs x) := fun h => by
  refine ⟨follow_stays h, fun s hx => hs s ?_⟩
  unfold followR at h hx
  split at h
  · simp [RO.ill] at h
  rename_i h1
  rw [if_neg h1] at hx
  split at h
  · simp [RO.ill] at h
  rename_i h2
  rw [if_neg h2] at hx
  split at h
  · simp [RO.ill] at h
  rename_i h3
  rw [if_neg h3] at hx
  exact hx
theorem good_leave {x : Int} (hs : ∀ s ∈ rs, s.size ≤ 100) : GoodO (leaveR C F rs cs x) := fun h => by
  refine ⟨leave_stays h, fun s hx => hs s ?_⟩
  unfold leaveR at h hx
  split at h
  · simp [RO.ill] at h
  rename_i h1
  rw [if_neg h1] at hx
  split at h
  · simp [RO.ill] at h
  rename_i h2
  rw [if_neg h2] at hx
  exact List.mem_of_mem_drop hx
theorem good_move {x y : Int} (hs : ∀ s ∈ rs, s.size ≤ 100) : GoodO (moveR C F rs cs x y) := fun h => by
  obtain ⟨cs', _, e, h4, _⟩ := move_stays h
  rw [e]
  exact ⟨h4, fun s hx => hs s (List.mem_of_mem_drop hx)⟩
/-- The ring is what was answered, if it was. -/
theorem RY.take (h : RY w wr g aa len cap B T C F a n q b m p rs cs Y a' q' b' p' r) (hc : r.c = 0) : RGX w (set4 wr T (.int .i64 r.cap) (.int .i64 r.first) (.slice a' r.recs.length q') (.slice b' r.curs.length p')) g aa len cap B T :=
  ⟨_, _, _, _, _, _, _, _, _, _, h.rg.put h.own, (h.good hc).1, (h.good hc).2⟩
theorem RG.setC (h : RG w wr g aa len cap B T C F a n q b m p rs cs) (x : Int) : RG w (wr.setCell ⟨T, 0, none⟩ (.int .i64 x)) g aa len cap B T x F a n q b m p rs cs := by
  have hlt := h.lt
  have hgl := h.gl
  have hst : Below T wr (wr.setCell ⟨T, 0, none⟩ (.int .i64 x)) := (Below.refl _ _).setCell (p := ⟨T, 0, none⟩) (Nat.le_refl _) _
  exact ⟨(hst.block _ hlt).trans h.res, heap_setCell_same _ _ 0 _ _ _ h.box, ⟨ownsRow_setCell_below h.own.1 (a := ⟨T, 0, none⟩) (Nat.lt_succ_self _) _, ownsRow_setCell_below h.own.2 (a := ⟨T, 0, none⟩) (Nat.lt_succ_self _) _⟩, src_below h.src hst (by omega), bytes_below h.byt hst (by have := h.bg; omega), h.dg.trans (hst.mono (by omega)), h.lt, h.gl, h.bg⟩
theorem RG.setF (h : RG w wr g aa len cap B T C F a n q b m p rs cs) (x : Int) : RG w (wr.setCell ⟨T, 1, none⟩ (.int .i64 x)) g aa len cap B T C x a n q b m p rs cs := by
  have hlt := h.lt
  have hgl := h.gl
  have hst : Below T wr (wr.setCell ⟨T, 1, none⟩ (.int .i64 x)) := (Below.refl _ _).setCell (p := ⟨T, 1, none⟩) (Nat.le_refl _) _
  exact ⟨(hst.block _ hlt).trans h.res, heap_setCell_same _ _ 1 _ _ _ h.box, ⟨ownsRow_setCell_below h.own.1 (a := ⟨T, 1, none⟩) (Nat.lt_succ_self _) _, ownsRow_setCell_below h.own.2 (a := ⟨T, 1, none⟩) (Nat.lt_succ_self _) _⟩, src_below h.src hst (by omega), bytes_below h.byt hst (by have := h.bg; omega), h.dg.trans (hst.mono (by omega)), h.lt, h.gl, h.bg⟩
/-- A row of its own has grown: what is not that row stands. -/
theorem RG.grow {w2 : World} {o : Obj} {row : Option Nat} (h : RG w wr g aa len cap B T C F a n q b m p rs cs) (hg : (wr.alloc o).grownBy w2 row) (hr : ∀ j, row = some j → T + 1 ≤ j) :
    w2.heap[w.heap.size]? = some (ringObj 0 0 none 0 0 none 0 0) ∧ w2.heap[T]? = some (ringObj C F a n q b m p) ∧ Src w2 g aa len cap ∧ Bytes B w2 aa len ∧ DG g w w2 := by
  have h1 := h.under (below_new wr o)
  have hlt := h.lt
  have hgl := h.gl
  have hbx := blk_lt h1.box
  have hB : Below (T + 1) (wr.alloc o) w2 := (Below.refl _ _).grown hg (by omega) (fun j e' => hr j e')
  exact ⟨(hB.block _ (by omega)).trans h1.res, (hB.block _ (by omega)).trans h1.box, src_below h1.src hB (by omega), bytes_below h1.byt hB (by have := h.bg; omega), h1.dg.trans (hB.mono (by omega))⟩
theorem RG.app1 {w2 : World} {o : Obj} {a2 : Option Addr} {q2 : Nat} {x : ByteArray} (h : RG w wr g aa len cap B T C F a n q b m p rs cs) (ho : w2.ownsRow (T + 1) 9 1 (.slice a2 (n + 1) q2) (n + 1) (rs.map Value.string ++ [.string x])) (hg : (wr.alloc o).grownBy w2 (Value.slice a n q).ownBlock) :
    (∀ o, w2.cell? ⟨T, o, none⟩ = #[Value.int .i64 C, .int .i64 F, .slice a n q, .slice b m p][o]?) ∧ (∀ o, w2.frozen? ⟨T, o, none⟩ = false) ∧ RG w (w2.setCell ⟨T, 2, none⟩ (.slice a2 (n + 1) q2)) g aa len cap B T C F a2 (n + 1) q2 b m p (rs ++ [x]) cs := by
  obtain ⟨k1, k2, k3, k4, k5⟩ := h.grow hg (fun j e' => (h.own.1.lt j e').1)
  have hlt := h.lt
  have hgl := h.gl
  have h2 : w2.ownsRow (T + 1) 47 2 (.slice b m p) m (curCells cs) := (h.own.2.alloc o).kept hg (own_apart' (h.own.1.alloc o) (h.own.2.alloc o))
  have hst : Below T w2 (w2.setCell ⟨T, 2, none⟩ (.slice a2 (n + 1) q2)) := (Below.refl _ _).setCell (p := ⟨T, 2, none⟩) (Nat.le_refl _) _
  refine ⟨fun o => cell_of_block0 k2 o, fun o => unfrozen_of_block0 k2 o, (hst.block _ hlt).trans k1, heap_setCell_same _ _ 2 _ _ _ k2, ⟨ownsRow_setCell_below ?_ (a := ⟨T, 2, none⟩) (Nat.lt_succ_self _) _, ownsRow_setCell_below h2 (a := ⟨T, 2, none⟩) (Nat.lt_succ_self _) _⟩, src_below k3 hst (by omega), bytes_below k4 hst (by have := h.bg; omega), k5.trans (hst.mono (by omega)), h.lt, h.gl, h.bg⟩
  simpa using ho
theorem RG.app2 {w2 : World} {o : Obj} {b2 : Option Addr} {p2 : Nat} {x : Int × Int} (h : RG w wr g aa len cap B T C F a n q b m p rs cs) (ho : w2.ownsRow (T + 1) 47 2 (.slice b2 (m + 1) p2) (m + 1) (curCells cs ++ [.int .i64 x.1, .int .i64 x.2])) (hg : (wr.alloc o).grownBy w2 (Value.slice b m p).ownBlock) :
    (∀ o, w2.cell? ⟨T, o, none⟩ = #[Value.int .i64 C, .int .i64 F, .slice a n q, .slice b m p][o]?) ∧ (∀ o, w2.frozen? ⟨T, o, none⟩ = false) ∧ RG w (w2.setCell ⟨T, 3, none⟩ (.slice b2 (m + 1) p2)) g aa len cap B T C F a n q b2 (m + 1) p2 rs (cs ++ [x]) := by
  obtain ⟨k1, k2, k3, k4, k5⟩ := h.grow hg (fun j e' => (h.own.2.lt j e').1)
  have hlt := h.lt
  have hgl := h.gl
  have h1 : w2.ownsRow (T + 1) 9 1 (.slice a n q) n (rs.map Value.string) := (h.own.1.alloc o).kept hg (own_apart (h.own.1.alloc o) (h.own.2.alloc o))
  have hst : Below T w2 (w2.setCell ⟨T, 3, none⟩ (.slice b2 (m + 1) p2)) := (Below.refl _ _).setCell (p := ⟨T, 3, none⟩) (Nat.le_refl _) _
  refine ⟨fun o => cell_of_block0 k2 o, fun o => unfrozen_of_block0 k2 o, (hst.block _ hlt).trans k1, heap_setCell_same _ _ 3 _ _ _ k2, ⟨ownsRow_setCell_below h1 (a := ⟨T, 3, none⟩) (Nat.lt_succ_self _) _, ownsRow_setCell_below ?_ (a := ⟨T, 3, none⟩) (Nat.lt_succ_self _) _⟩, src_below k3 hst (by omega), bytes_below k4 hst (by have := h.bg; omega), k5.trans (hst.mono (by omega)), h.lt, h.gl, h.bg⟩
  rw [curCells_append]
  exact ho
end Go.Proofs.YtbbaghlmialaoaaGreatDoor
