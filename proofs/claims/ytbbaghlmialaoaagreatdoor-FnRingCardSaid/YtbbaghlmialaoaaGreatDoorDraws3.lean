import Derived.Test.YtbbaghlmialaoaaGreatDoorDraws1
import Derived.Test.YtbbaghlmialaoaaGreatDoorRecSpec4
import Derived.Laws.Strings3
import Derived.Deep.DeepCutAuto
/- Contracts for the draws of chapter 3. -/
namespace Go.Proofs.YtbbaghlmialaoaaGreatDoor
open Go.RowKit

/-- A number below 'most', also where that is 1. -/
theorem src_nx (g most : Nat) (w : World) (a : Option Addr) (len cap B : Nat) (hm : 1 ≤ most) (hm2 : most ≤ 1099511627776) (hl : len ≤ 1048576) (hs : Src w g a len cap) (hb : Bytes B w a len) (hB : B ≤ g) :
    Calls Tryz.prog 52 #[.pointer (some ⟨g, 0, none⟩), .int .i64 most] w fun e w' => ∃ r : Nat, e = .returned (.int .i64 r) ∧ r < most ∧ Src w' g a len cap ∧ w.grownBy w' (some g) := by
  by_cases h : 1 < most
  · exact src_n g most w a len cap B h hm2 hl hs hb hB
  · have e : most = 1 := by omega
    subst e
    refine (src_n_small g 1 w (by omega)).mono ?_
    rintro e w' ⟨rfl, rfl⟩
    exact ⟨0, rfl, by omega, hs, grown_refl _ _⟩
set_option maxHeartbeats 1000000 in
/-- One of some texts. -/
theorem src_pick (g b n m : Nat) (w : World) (a : Option Addr) (len cap B : Nat) (hn : 1 ≤ n) (hn2 : n ≤ 100) (hl : len ≤ 1048576) (hs : Src w g a len cap) (hb : Bytes B w a len) (hB : B ≤ g) (hbg : g < b)
    (hc : ∀ i, i < n → ∃ d : ByteArray, w.cell? ⟨b, i, none⟩ = some (.string d) ∧ d.size ≤ m) :
    Calls Tryz.prog 97 #[.pointer (some ⟨g, 0, none⟩), .slice (some ⟨b, 0, none⟩) n n] w fun e w' => ∃ d : ByteArray, e = .returned (.string d) ∧ d.size ≤ m ∧ Src w' g a len cap ∧ w.grownBy w' (some g) := by
  have HS : Hid _ := hs
  have HB : Hid _ := hb
  have HC : Hid _ := hc
  clear hs hb hc
  go_enter Tryz.func97, Tryz.ntmps97
  go_wp2_with fail
  refine (src_nx g n w a len cap B hn (by omega) hl HS.out HB.out hB).mono ?_
  rintro e w1 ⟨r, rfl, hr, hs1, hg1⟩
  obtain ⟨d, hd, hdm⟩ := HC.out r hr
  have hcell : w1.cell? ⟨b, r, none⟩ = some (.string d) := hg1.cell (a := ⟨b, r, none⟩) hd (by simp; omega)
  have HS1 : Hid _ := hs1
  have HG1 : Hid _ := hg1
  clear hs1 hg1 hd
  go_wp2
  go_ret
  exact ⟨d, rfl, hdm, HS1.out, HG1.out⟩

/-- What a drawn record may be. -/
def recDrawn (k t : Int) (d : ByteArray) : Prop := (0 ≤ k ∧ k ≤ 4) ∧ (0 ≤ t ∧ t ≤ 1000001) ∧ d.size ≤ 17
theorem bytes_lt_grown {w w' : World} {g : Nat} (h : w.grownBy w' (some g)) {k : Nat} (hk : k < w.heap.size) (hne : k ≠ g) : w'.heap[k]? = w.heap[k]? := h.block k hk (by simp; omega)
abbrev recObj (k t : Int) (d : ByteArray) : Obj := .cells #[.int .i64 k, .int .i64 t, .string d] 28 (0, 0)
set_option maxRecDepth 100000 in
set_option maxHeartbeats 4000000 in
theorem src_rec (g : Nat) (w : World) (a : Option Addr) (len cap B : Nat) (hl : len ≤ 1048576) (hs : Src w g a len cap) (hb : Bytes B w a len) (hB : B ≤ g) (hg : g < w.heap.size) :
    Calls Tryz.prog 44 #[.pointer (some ⟨g, 0, none⟩)] w fun e w' => ∃ (k t : Int) (d : ByteArray), e = .returned (recV k t d) ∧ recDrawn k t d ∧ Src w' g a len cap ∧ Below g w w' := by
  have hal : Below w.heap.size w (w.alloc (recObj 0 0 ⟨#[]⟩)) := (Below.refl _ _).alloc (Nat.le_refl _) _
  have HS : Hid _ := src_below hs hal hg
  have HB : Hid _ := bytes_below hb hal (by omega)
  have HL : Hid (Below g w (w.alloc (recObj 0 0 ⟨#[]⟩))) := hal.mono (by omega)
  have HR : Hid ((w.alloc (recObj 0 0 ⟨#[]⟩)).heap[w.heap.size]? = some (recObj 0 0 ⟨#[]⟩)) := heap_alloc_new w _
  clear hs hb hal
  go_enter Tryz.func44, Tryz.ntmps44
  go_wp2_with fail
  refine (src_n g 3 _ a len cap B (by omega) (by omega) hl HS.out HB.out hB).mono ?_
  rintro e w1 ⟨r1, rfl, hr1, hs1, hg1⟩
  have hz1 : w.heap.size < w1.heap.size := by have h := hg1.size; simp at h; omega
  have HR1 : Hid (w1.heap[w.heap.size]? = some (recObj 0 0 ⟨#[]⟩)) := (bytes_lt_grown hg1 (by simp) (by omega)).trans HR.out
  have HL1 : Hid (Below g w w1) := HL.out.grown hg1 (by simp; omega) (fun k hk => by simp at hk; omega)
  have HB1 : Hid _ := bytes_grown HB.out hg1 hB
  have hal1 : Below w1.heap.size w1 (w1.alloc (.cells #[.string ⟨#[97]⟩, .string ⟨#[98, 98]⟩, .string ⟨#[]⟩, .string ⟨#[99, 99, 99]⟩] 9)) := (Below.refl _ _).alloc (Nat.le_refl _) _
  have HS1 : Hid _ := src_below hs1 hal1 (by omega)
  have HB1a : Hid _ := bytes_below HB1.out hal1 (by omega)
  have HL1a : Hid _ := HL1.out.trans (hal1.mono (by omega))
  have HR1a : Hid _ := (hal1.block w.heap.size hz1).trans HR1.out
  have hpk : Hid (∀ i, i < 4 → ∃ d : ByteArray, (w1.alloc (.cells #[.string ⟨#[97]⟩, .string ⟨#[98, 98]⟩, .string ⟨#[]⟩, .string ⟨#[99, 99, 99]⟩] 9)).cell? ⟨w1.heap.size, i, none⟩ = some (.string d) ∧ d.size ≤ 3) := by
    intro i hi
    rw [cell_of_heap (heap_alloc_new w1 _) i]
    rcases (show i = 0 ∨ i = 1 ∨ i = 2 ∨ i = 3 by omega) with e | e | e | e <;> subst e
    · exact ⟨_, rfl, by decide⟩
    · exact ⟨_, rfl, by decide⟩
    · exact ⟨_, rfl, by decide⟩
    · exact ⟨_, rfl, by decide⟩
  clear hs1 hg1 hal1
  go_wp2_with fail
  refine (src_pick g w1.heap.size 4 3 _ a len cap B (by omega) (by omega) hl HS1.out HB1a.out hB (by omega) hpk.out).mono ?_
  rintro e w2 ⟨d, rfl, hd, hs2, hg2⟩
  have hz2 : w.heap.size < w2.heap.size := by have h := hg2.size; simp at h; omega
  have HR2 : Hid (w2.heap[w.heap.size]? = some (recObj 0 0 ⟨#[]⟩)) := (bytes_lt_grown hg2 (by simp; omega) (by omega)).trans HR1a.out
  have HL2 : Hid (Below g w w2) := HL1a.out.grown hg2 (by simp; omega) (fun k hk => by simp at hk; omega)
  have HB2 : Hid _ := bytes_grown HB1a.out hg2 hB
  have hal2 : Below w2.heap.size w2 (w2.alloc (recObj 1 (1 + (r1 : Int)) d)) := (Below.refl _ _).alloc (Nat.le_refl _) _
  have HS2 : Hid _ := src_below hs2 hal2 (by omega)
  have HB2a : Hid _ := bytes_below HB2.out hal2 (by omega)
  have HL2a : Hid _ := HL2.out.trans (hal2.mono (by omega))
  have HR2a : Hid _ := (hal2.block w.heap.size hz2).trans HR2.out
  have HQ2 : Hid ((w2.alloc (recObj 1 (1 + (r1 : Int)) d)).heap[w2.heap.size]? = some (recObj 1 (1 + (r1 : Int)) d)) := heap_alloc_new w2 _
  clear hs2 hg2 hal2 HS1 HB1a HL1a HR1a hpk HR1 HL1 HB1 HS HB HL HR
  go_wp2_with fail
  refine (src_one g 3 _ a len cap B (by omega) (by omega) hl HS2.out HB2a.out hB).mono ?_
  rintro e w3 ⟨r2, rfl, hr2, hs3, hg3⟩
  have hz3 : w2.heap.size < w3.heap.size := by have h := hg3.size; simp at h; omega
  have HR3 : Hid (w3.heap[w.heap.size]? = some (recObj 0 0 ⟨#[]⟩)) := (bytes_lt_grown hg3 (by simp; omega) (by omega)).trans HR2a.out
  have HQ3 : Hid (w3.heap[w2.heap.size]? = some (recObj 1 (1 + (r1 : Int)) d)) := (bytes_lt_grown hg3 (by simp) (by omega)).trans HQ2.out
  have HL3 : Hid (Below g w w3) := HL2a.out.grown hg3 (by simp; omega) (fun k hk => by simp at hk; omega)
  have HB3 : Hid _ := bytes_grown HB2a.out hg3 hB
  have HS3 : Hid _ := hs3
  clear hs3 hg3 HS2 HB2a HL2a HR2a HQ2 HL2 HB2 HR2
  go_upto_if 12 with fail
  go_cut [] (fun wc => ∃ (k t : Int) (x : ByteArray), Hid (recDrawn k t x) ∧ Hid (w2.heap.size < wc.heap.size) ∧ Hid (wc.heap[w.heap.size]? = some (recObj 0 0 ⟨#[]⟩)) ∧ Hid (wc.heap[w2.heap.size]? = some (recObj k t x)) ∧ Hid (Src wc g a len cap) ∧ Hid (Bytes B wc a len) ∧ Hid (Below g w wc))
  case first =>
    by_cases h0 : r2 = 0
    · have h0b : ((r2 : Int) == 0) = true := by rw [beq_iff_eq]; omega
      clear h0
      go_wp2_with fail
      refine (src_n g 2 _ a len cap B (by omega) (by omega) hl HS3.out HB3.out hB).mono ?_
      rintro e w4 ⟨r3, rfl, hr3, hs4, hg4⟩
      have hz4 : w2.heap.size < w4.heap.size := by have h := hg4.size; omega
      have HR4 : Hid (w4.heap[w.heap.size]? = some (recObj 0 0 ⟨#[]⟩)) := (bytes_lt_grown hg4 (by omega) (by omega)).trans HR3.out
      have HQ4 : Hid (w4.heap[w2.heap.size]? = some (recObj 1 (1 + (r1 : Int)) d)) := (bytes_lt_grown hg4 (by omega) (by omega)).trans HQ3.out
      have HL4 : Hid (Below g w w4) := HL3.out.grown hg4 (by omega) (fun k hk => by simp at hk; omega)
      have HB4 : Hid _ := bytes_grown HB3.out hg4 hB
      have HS4 : Hid _ := hs4
      clear hs4 hg4
      go_wp2_with fail
      refine (src_n g 3 _ a len cap B (by omega) (by omega) hl HS4.out HB4.out hB).mono ?_
      rintro e w5 ⟨r4, rfl, hr4, hs5, hg5⟩
      have hz5 : w2.heap.size < w5.heap.size := by have h := hg5.size; omega
      have HR5 : Hid (w5.heap[w.heap.size]? = some (recObj 0 0 ⟨#[]⟩)) := (bytes_lt_grown hg5 (by omega) (by omega)).trans HR4.out
      have HQ5 : Hid (w5.heap[w2.heap.size]? = some (recObj 1 (1 + (r1 : Int)) d)) := (bytes_lt_grown hg5 (by omega) (by omega)).trans HQ4.out
      have HL5 : Hid (Below g w w5) := HL4.out.grown hg5 (by omega) (fun k hk => by simp at hk; omega)
      have HB5 : Hid _ := bytes_grown HB4.out hg5 hB
      have HS5 : Hid _ := hs5
      clear hs5 hg5
      have hc5 := cell_of_heap HQ5.out
      have hf5 := frozen_of_heap HQ5.out
      go_wp2_with fail
      go_meet
      have hst : Below w2.heap.size w5 (((w5.setCell ⟨w2.heap.size, 0, none⟩ (.int .i64 (2 + (r3 : Int)))).setCell ⟨w2.heap.size, 1, none⟩ (.int .i64 (1 + (r4 : Int)))).setCell ⟨w2.heap.size, 2, none⟩ (.string ⟨#[]⟩)) :=
        (((Below.refl _ _).setCell (p := ⟨w2.heap.size, 0, none⟩) (Nat.le_refl _) _).setCell (p := ⟨w2.heap.size, 1, none⟩) (Nat.le_refl _) _).setCell (p := ⟨w2.heap.size, 2, none⟩) (Nat.le_refl _) _
      have hlt2 : g < w2.heap.size := by omega
      exact ⟨2 + (r3 : Int), 1 + (r4 : Int), ⟨#[]⟩, ⟨by omega, by omega, Nat.zero_le _⟩, by show w2.heap.size < _; have h := hst.size; omega, (hst.block w.heap.size hz2).trans HR5.out,
        heap_setCell_same _ _ 2 _ _ _ (heap_setCell_same _ _ 1 _ _ _ (heap_setCell_same _ _ 0 _ _ _ HQ5.out)), src_below HS5.out hst hlt2, bytes_below HB5.out hst (by omega), HL5.out.trans (hst.mono (by omega))⟩
    · have h0b : ((r2 : Int) == 0) = false := by rw [beq_eq_false_iff_ne]; omega
      clear h0
      go_wp2_with fail
      go_meet
      exact ⟨1, 1 + (r1 : Int), d, ⟨by omega, by omega, by omega⟩, hz3, HR3, HQ3, HS3, HB3, HL3⟩
  case rest =>
  obtain ⟨k, t, x, hkt, hzc, hRc, hQc, hSc, hBc, hLc⟩ := hcut
  clear HS3 HB3 HL3 HR3 HQ3 hr1 hr2 hd hz3 hz1
  have hzc' := hzc.out
  go_wp2_with fail
  refine (src_one g 15 _ a len cap B (by omega) (by omega) hl hSc.out hBc.out hB).mono ?_
  rintro e w6 ⟨r5, rfl, hr5, hs6, hg6⟩
  have hz6 : w2.heap.size < w6.heap.size := by have h := hg6.size; omega
  have HR6 : Hid (w6.heap[w.heap.size]? = some (recObj 0 0 ⟨#[]⟩)) := (bytes_lt_grown hg6 (by omega) (by omega)).trans hRc.out
  have HQ6 : Hid (w6.heap[w2.heap.size]? = some (recObj k t x)) := (bytes_lt_grown hg6 (by omega) (by omega)).trans hQc.out
  have HL6 : Hid (Below g w w6) := hLc.out.grown hg6 (by omega) (fun k hk => by simp at hk; omega)
  have HB6 : Hid _ := bytes_grown hBc.out hg6 hB
  have HS6 : Hid _ := hs6
  clear hs6 hg6 hRc hQc hSc hBc hLc hzc hzc'
  go_upto_if 21 with fail
  go_cut [] (fun wc => ∃ (k t : Int) (x : ByteArray), Hid (recDrawn k t x) ∧ Hid (w2.heap.size < wc.heap.size) ∧ Hid (wc.heap[w.heap.size]? = some (recObj 0 0 ⟨#[]⟩)) ∧ Hid (wc.heap[w2.heap.size]? = some (recObj k t x)) ∧ Hid (Src wc g a len cap) ∧ Hid (Below g w wc))
  case first =>
    by_cases h0 : r5 = 0
    · have h0b : ((r5 : Int) == 0) = true := by rw [beq_iff_eq]; omega
      clear h0
      go_wp2_with fail
      refine (src_n g 3 _ a len cap B (by omega) (by omega) hl HS6.out HB6.out hB).mono ?_
      rintro e w7 ⟨r6, rfl, hr6, hs7, hg7⟩
      have hz7 : w2.heap.size < w7.heap.size := by have h := hg7.size; omega
      have HR7 : Hid (w7.heap[w.heap.size]? = some (recObj 0 0 ⟨#[]⟩)) := (bytes_lt_grown hg7 (by omega) (by omega)).trans HR6.out
      have HQ7 : Hid (w7.heap[w2.heap.size]? = some (recObj k t x)) := (bytes_lt_grown hg7 (by omega) (by omega)).trans HQ6.out
      have HL7 : Hid (Below g w w7) := HL6.out.grown hg7 (by omega) (fun k hk => by simp at hk; omega)
      have HB7 : Hid _ := bytes_grown HB6.out hg7 hB
      have HS7 : Hid _ := hs7
      clear hs7 hg7 HS6 HB6 HL6 HR6 HQ6
      have hlt2 : g < w2.heap.size := by omega
      by_cases hA : r6 = 0
      · have hAb : ((r6 : Int) == 0) = true := by rw [beq_iff_eq]; omega
        clear hA
        go_wp2_with fail
        refine (src_n g 5 _ a len cap B (by omega) (by omega) hl HS7.out HB7.out hB).mono ?_
        rintro e w8 ⟨r7, rfl, hr7, hs8, hg8⟩
        have hz8 : w2.heap.size < w8.heap.size := by have h := hg8.size; omega
        have HR8 : Hid (w8.heap[w.heap.size]? = some (recObj 0 0 ⟨#[]⟩)) := (bytes_lt_grown hg8 (by omega) (by omega)).trans HR7.out
        have HQ8 : Hid (w8.heap[w2.heap.size]? = some (recObj k t x)) := (bytes_lt_grown hg8 (by omega) (by omega)).trans HQ7.out
        have HL8 : Hid (Below g w w8) := HL7.out.grown hg8 (by omega) (fun k hk => by simp at hk; omega)
        have HS8 : Hid _ := hs8
        clear hs8 hg8
        have hc8 := cell_of_heap HQ8.out
        have hf8 := frozen_of_heap HQ8.out
        go_wp2_with fail
        go_meet
        have hst : Below w2.heap.size w8 (w8.setCell ⟨w2.heap.size, 0, none⟩ (.int .i64 (r7 : Int))) := (Below.refl _ _).setCell (p := ⟨w2.heap.size, 0, none⟩) (Nat.le_refl _) _
        exact ⟨(r7 : Int), t, x, ⟨by omega, hkt.out.2.1, hkt.out.2.2⟩, by show w2.heap.size < _; have h := hst.size; omega, (hst.block w.heap.size hz2).trans HR8.out, heap_setCell_same _ _ 0 _ _ _ HQ8.out, src_below HS8.out hst hlt2, HL8.out.trans (hst.mono (by omega))⟩
      · have hAb : ((r6 : Int) == 0) = false := by rw [beq_eq_false_iff_ne]; omega
        by_cases hC : r6 = 1
        · have hCb : ((r6 : Int) == 1) = true := by rw [beq_iff_eq]; omega
          clear hA hC
          have hal7 : Below w7.heap.size w7 (w7.alloc (.cells #[.int .i64 0, .int .i64 1000000, .int .i64 1000001] 2)) := (Below.refl _ _).alloc (Nat.le_refl _) _
          have HS7a : Hid _ := src_below HS7.out hal7 (by omega)
          have HB7a : Hid _ := bytes_below HB7.out hal7 (by omega)
          have HL7a : Hid _ := HL7.out.trans (hal7.mono (by omega))
          have HR7a : Hid _ := (hal7.block w.heap.size (by omega)).trans HR7.out
          have HQ7a : Hid _ := (hal7.block w2.heap.size hz7).trans HQ7.out
          clear hal7
          go_wp2_with fail
          refine (src_n g 3 _ a len cap B (by omega) (by omega) hl HS7a.out HB7a.out hB).mono ?_
          rintro e w8 ⟨r7, rfl, hr7, hs8, hg8⟩
          have hz8 : w2.heap.size < w8.heap.size := by have h := hg8.size; simp at h; omega
          have HR8 : Hid (w8.heap[w.heap.size]? = some (recObj 0 0 ⟨#[]⟩)) := (bytes_lt_grown hg8 (by simp; omega) (by omega)).trans HR7a.out
          have HQ8 : Hid (w8.heap[w2.heap.size]? = some (recObj k t x)) := (bytes_lt_grown hg8 (by simp; omega) (by omega)).trans HQ7a.out
          have HL8 : Hid (Below g w w8) := HL7a.out.grown hg8 (by simp; omega) (fun k hk => by simp at hk; omega)
          have HS8 : Hid _ := hs8
          obtain ⟨v, hv, hvb⟩ : ∃ v : Int, (#[.int .i64 0, .int .i64 1000000, .int .i64 1000001] : Array Value)[r7]? = some (.int .i64 v) ∧ Hid (0 ≤ v ∧ v ≤ 1000001) := by
            rcases (show r7 = 0 ∨ r7 = 1 ∨ r7 = 2 by omega) with e | e | e <;> subst e
            · exact ⟨_, rfl, by constructor <;> decide⟩
            · exact ⟨_, rfl, by constructor <;> decide⟩
            · exact ⟨_, rfl, by constructor <;> decide⟩
          have hcell : w8.cell? ⟨w7.heap.size, r7, none⟩ = some (.int .i64 v) := hg8.cell (a := ⟨w7.heap.size, r7, none⟩) ((cell_of_heap (heap_alloc_new w7 _) r7).trans hv) (by simp; omega)
          clear hs8 hg8 hv
          have hc8 := cell_of_heap HQ8.out
          have hf8 := frozen_of_heap HQ8.out
          go_wp2_with fail
          go_meet
          have hst : Below w2.heap.size w8 (w8.setCell ⟨w2.heap.size, 1, none⟩ (.int .i64 v)) := (Below.refl _ _).setCell (p := ⟨w2.heap.size, 1, none⟩) (Nat.le_refl _) _
          exact ⟨k, v, x, ⟨hkt.out.1, hvb.out, hkt.out.2.2⟩, by show w2.heap.size < _; have h := hst.size; omega, (hst.block w.heap.size hz2).trans HR8.out, heap_setCell_same _ _ 1 _ _ _ HQ8.out, src_below HS8.out hst hlt2, HL8.out.trans (hst.mono (by omega))⟩
        · have hCb : ((r6 : Int) == 1) = false := by rw [beq_eq_false_iff_ne]; omega
          clear hA hC
          go_wp2_with fail
          refine (src_n g 3 _ a len cap B (by omega) (by omega) hl HS7.out HB7.out hB).mono ?_
          rintro e w8 ⟨r7, rfl, hr7, hs8, hg8⟩
          have hz8 : w2.heap.size < w8.heap.size := by have h := hg8.size; omega
          have HR8 : Hid (w8.heap[w.heap.size]? = some (recObj 0 0 ⟨#[]⟩)) := (bytes_lt_grown hg8 (by omega) (by omega)).trans HR7.out
          have HQ8 : Hid (w8.heap[w2.heap.size]? = some (recObj k t x)) := (bytes_lt_grown hg8 (by omega) (by omega)).trans HQ7.out
          have HL8 : Hid (Below g w w8) := HL7.out.grown hg8 (by omega) (fun k hk => by simp at hk; omega)
          have HS8 : Hid _ := hs8
          clear hs8 hg8
          obtain ⟨Z, hZ, hmk⟩ := mk_zeros (15 + r7) (15 + (r7 : Int)) (by omega) (by omega)
          have hcv := conv_zeros w8 Z (15 + r7) hZ.out (by omega)
          have hal8 : Below w8.heap.size w8 (w8.alloc (.cells Z.toArray 5)) := (Below.refl _ _).alloc (Nat.le_refl _) _
          have HQ8a : Hid _ := (hal8.block w2.heap.size hz8).trans HQ8.out
          have HR8a : Hid _ := (hal8.block w.heap.size (by omega)).trans HR8.out
          have hc8 := cell_of_heap HQ8.out
          have hf8 := frozen_of_heap HQ8.out
          go_wp2_with fail
          go_meet
          have hst : Below w2.heap.size w8 ((w8.setCell ⟨w2.heap.size, 2, none⟩ (.string ⟨(List.replicate (15 + r7) (0 : UInt8)).toArray⟩)).alloc (.cells Z.toArray 5)) := ((Below.refl _ _).setCell (p := ⟨w2.heap.size, 2, none⟩) (Nat.le_refl _) _).alloc (by simp; omega) _
          refine ⟨k, t, ⟨(List.replicate (15 + r7) (0 : UInt8)).toArray⟩, ⟨hkt.out.1, hkt.out.2.1, by rw [size_mk, List.length_replicate]; omega⟩, Nat.lt_of_lt_of_le hz8 hst.size, (hst.block w.heap.size hz2).trans HR8.out, ?_, src_below HS8.out hst hlt2, HL8.out.trans (hst.mono (by omega))⟩
          have hbl : ((w8.setCell ⟨w2.heap.size, 2, none⟩ (.string ⟨(List.replicate (15 + r7) (0 : UInt8)).toArray⟩)).alloc (.cells Z.toArray 5)).heap[w2.heap.size]? = _ := ((Below.refl (w8.setCell ⟨w2.heap.size, 2, none⟩ (.string ⟨(List.replicate (15 + r7) (0 : UInt8)).toArray⟩)).heap.size _).alloc (Nat.le_refl _) _).block w2.heap.size (by simp; omega)
          exact hbl.trans (heap_setCell_same _ _ 2 _ _ _ HQ8.out)
    · have h0b : ((r5 : Int) == 0) = false := by rw [beq_eq_false_iff_ne]; omega
      clear h0
      go_wp2_with fail
      go_meet
      exact ⟨k, t, x, hkt, hz6, HR6, HQ6, HS6, HL6⟩
  case rest =>
  obtain ⟨k', t', x', hkt', hzc, hRc, hQc, hSc, hLc⟩ := hcut
  clear HS6 HB6 HL6 HR6 HQ6 hkt
  have hq := cell_of_heap hQc.out
  have hr := cell_of_heap hRc.out
  have hf := frozen_of_heap hRc.out
  have hlt : g < w.heap.size := hg
  have hst : Below w.heap.size wc (((wc.setCell ⟨w.heap.size, 0, none⟩ (.int .i64 k')).setCell ⟨w.heap.size, 1, none⟩ (.int .i64 t')).setCell ⟨w.heap.size, 2, none⟩ (.string x')) :=
    (((Below.refl _ _).setCell (p := ⟨w.heap.size, 0, none⟩) (Nat.le_refl _) _).setCell (p := ⟨w.heap.size, 1, none⟩) (Nat.le_refl _) _).setCell (p := ⟨w.heap.size, 2, none⟩) (Nat.le_refl _) _
  have HST : Hid _ := hst
  clear hst
  go_wp2
  exact bodyPost_ret (v := recV k' t' x') (by simp [results, Tryz.results44, go_sem, hr]) rfl ⟨k', t', x', rfl, hkt'.out, src_below hSc.out HST.out hlt, hLc.out.trans (HST.out.mono (by omega))⟩
end Go.Proofs.YtbbaghlmialaoaaGreatDoor
/- A text that is changed a little. -/
namespace Go.Proofs.YtbbaghlmialaoaaGreatDoor
open Go.RowKit

theorem src_drew {w : World} {g : Nat} {a : Option Addr} {len cap : Nat} (h : Src w g a len cap) : Src w.drew g a len cap := h
theorem conv1 (w : World) (x : UInt8) (v : Int) (hv : v = (x.toNat : Int)) :
    (convert 22 9 (.slice (some ⟨w.heap.size, 0, none⟩) 1 1)).run Tryz.prog (w.alloc (.cells #[.int .u8 v] 5)) = .ok (.string ⟨#[x]⟩) (w.alloc (.cells #[.int .u8 v] 5)) := by
  subst hv
  have h := conv_own (P := Tryz.prog) (dst := 9) Tryz.underlying22 Tryz.underlying5 Tryz.underlying9 (owns_of_row (w := w.alloc (.cells #[.int .u8 (x.toNat : Int)] 5)) (n := 1) (l := [x]) (cur := [.int .u8 (x.toNat : Int)]) (Nat.le_refl w.heap.size) (heap_alloc_new w _) rfl rfl (by unfold maxLen; decide))
  exact h
end Go.Proofs.YtbbaghlmialaoaaGreatDoor
