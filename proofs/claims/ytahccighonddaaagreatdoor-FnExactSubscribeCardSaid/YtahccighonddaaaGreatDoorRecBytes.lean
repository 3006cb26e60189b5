import Derived.Test.YtahccighonddaaaGreatDoorRecSpec
import Derived.Test.YtahccighonddaaaGreatDoorTabs
import Derived.Laws.StructEq
import Derived.Test.YtahccighonddaaaGreatDoorRecSpec2
namespace Go.Proofs.YtahccighonddaaaGreatDoor
open Go.RowKit
set_option maxHeartbeats 1000000 in
theorem impl_dataFits (s : ByteArray) (most : Nat) (w : World) (hm : s.size ≤ maxLen) (hmost : most ≤ 16) (hT : utabs w) :
    Calls Tryz.prog 44 #[.string s, .int .i64 most] w fun e w' => e = .returned (.bool (decide (s.size ≤ most))) ∧ Below w.heap.size w w' := by
  have HM : Hid (s.size ≤ maxLen) := hm
  have HT : Hid (utabs w) := hT
  clear hm hT
  go_enter Tryz.func44, Tryz.ntmps44
  go_wp2
  go_loopw [5, 6, 7] (fun _ _ _ wr => ∃ pos : Nat, pos ≤ most ∧ pos ≤ s.size ∧ Hid (wr.heap[w.heap.size]? = some (.stringIter s pos)) ∧ Hid (Below w.heap.size w wr)) (fun _ _ _ wr => s.size - wr.iterPos w.heap.size)
  case atStart => exact ⟨0, by omega, by omega, World.iter_heap w s 0, (Below.refl _ _).alloc (Nat.le_refl _) _⟩
  case round =>
    obtain ⟨pos, hp1, hp2, hit, hbel⟩ := hrel
    by_cases hlt : pos < s.size
    · have hnx := fun ty => Lib.run_next_any_at (P := Tryz.prog) wr w.heap.size s pos ty hit.out hlt
      have hwd := dec_width s pos hlt
      have hsz := hbel.out.size
      have hB1 : Hid (Below w.heap.size w (wr.iterAt w.heap.size s (pos + (Utf8.decode s pos).2))) := Lib.below_iterAt hbel.out (Nat.le_refl _) s _
      have hit1 : Hid ((wr.iterAt w.heap.size s (pos + (Utf8.decode s pos).2)).heap[w.heap.size]? = some (.stringIter s (pos + (Utf8.decode s pos).2))) := Lib.iterAt_heap wr w.heap.size s pos _ hit.out
      have hrun : Hid (∀ w, utabs w → Calls Tryz.prog 90 #[.string (s.extract pos s.size)] w fun e w' => e = .returned (.tuple #[.int .i32 (Utf8.decode s pos).1, .int .i64 (Utf8.decode s pos).2]) ∧ Below w.heap.size w w') := fun w h => dec_run s pos w hlt h
      have hT1 : Hid (utabs (wr.iterAt w.heap.size s (pos + (Utf8.decode s pos).2))) := utabs_below HT.out hB1.out
      have hsz1 : (wr.iterAt w.heap.size s (pos + (Utf8.decode s pos).2)).heap.size = wr.heap.size := Lib.iterAt_size _ _ _ _
      have hR32 := decode_le s pos
      have hpos : pos + (Utf8.decode s pos).2 ≤ 9223372036854775807 := by have h := HM.out; unfold maxLen at h; omega
      generalize (Utf8.decode s pos).2 = K at hnx hwd hB1 hit1 hrun hT1 hsz1 hpos
      generalize (Utf8.decode s pos).1 = R at hnx hrun hR32
      generalize wr.iterAt w.heap.size s (pos + K) = wn at hnx hB1 hit1 hT1 hsz1
      have hlen : w.heap.size < wn.heap.size := by
        rcases Nat.lt_or_ge w.heap.size wn.heap.size with h | h
        · exact h
        · have := hit1.out; rw [Array.getElem?_eq_none h] at this; cases this
      by_cases hov : pos + K ≤ most
      · go_wp2_with (first | (go_at_call 90; refine (hrun.out _ hT1.out).mono ?_; rintro e w2 ⟨rfl, hb2⟩))
        have hit2 : Hid (w2.heap[w.heap.size]? = some (.stringIter s (pos + K))) := (hb2.block w.heap.size hlen).trans hit1.out
        have hbel2 : Hid (Below w.heap.size w w2) := hB1.out.trans (hb2.mono (by omega))
        go_roundw
        case rel => exact ⟨pos + K, hov, hwd.2, hit2, hbel2⟩
        case measure => simp [World.iterPos, hit2.out, hit.out]; omega
      · go_wp2_with (first | (go_at_call 90; refine (hrun.out _ hT1.out).mono ?_; rintro e w2 ⟨rfl, hb2⟩))
        go_ret
        exact ⟨ret_bool (decide_eq_false (by omega)).symm, hB1.out.trans (hb2.mono (by omega))⟩
    · have hnx := fun ty => Lib.run_next_end_at (P := Tryz.prog) wr w.heap.size s pos ty hit.out hlt
      go_wp2
      go_ret
      exact ⟨ret_bool (decide_eq_true (by omega)).symm, hbel.out⟩
theorem impl_recRight (k t : Int) (d : ByteArray) (w : World) (hm : d.size ≤ maxLen) (hT : utabs w) :
    Calls Tryz.prog 200 #[recV k t d] w fun e w' => e = .returned (.bool (recRightB k t d)) ∧ Below w.heap.size w w' := by
  have HF : Hid (∀ (most : Nat) (w : World), most ≤ 16 → utabs w → Calls Tryz.prog 44 #[.string d, .int .i64 most] w fun e w' => e = .returned (.bool (decide (d.size ≤ most))) ∧ Below w.heap.size w w') := fun most w h1 h2 => impl_dataFits d most w hm h1 h2
  have HT : Hid (utabs (w.alloc (.cells #[.int .i64 k, .int .i64 t, .string d] 65))) := utabs_alloc hT _
  clear hm hT
  by_cases ht : 1 ≤ t ∧ t ≤ 1000000
  · by_cases h1 : k = 1
    · subst h1
      go_enter Tryz.func200, Tryz.ntmps200
      go_wp2_with (first | (go_at_call 44; refine (HF.out 16 _ (by omega) HT.out).mono ?_; rintro e w2 ⟨rfl, hb2⟩))
      go_ret
      have hB : Below w.heap.size w w2 := ((Below.refl _ _).alloc (Nat.le_refl _) _).trans (hb2.mono (by simp))
      refine ⟨ret_bool ?_, hB⟩
      by_cases h : d.size ≤ 16
      · rw [decide_eq_true h, right_yes (by omega) ht h (.inl rfl)]
      · rw [decide_eq_false h, right_no (by omega)]
    · by_cases h23 : k = 2 ∨ k = 3
      · have HE : Hid (decide (d = ByteArray.empty) = recRightB k t d) := by
          show _ = _
          have hz : d = ByteArray.empty ↔ d.size ≤ 0 := by simp
          by_cases h : d.size ≤ 0
          · rw [decide_eq_true (hz.2 h), right_yes (by omega) ht (by omega) (.inr (by omega))]
          · rw [decide_eq_false (fun e => h (hz.1 e)), right_no (by omega)]
        rcases h23 with rfl | rfl
        all_goals
          clear h1
          go_enter Tryz.func200, Tryz.ntmps200
          go_wp2_with (first | (go_at_call 44; refine (HF.out 0 _ (by omega) HT.out).mono ?_; rintro e w2 ⟨rfl, hb2⟩))
          go_ret
          have hB : Below w.heap.size w w2 := ((Below.refl _ _).alloc (Nat.le_refl _) _).trans (hb2.mono (by simp))
          exact ⟨ret_bool HE.out, hB⟩
      · have HE : Hid (recRightB k t d = false) := right_no (by omega)
        have e1 : (k == 1) = false := by rw [beq_eq_false_iff_ne]; omega
        have e2 : (k == 2) = false := by rw [beq_eq_false_iff_ne]; omega
        have e3 : (k == 3) = false := by rw [beq_eq_false_iff_ne]; omega
        clear h1 h23
        go_enter Tryz.func200, Tryz.ntmps200
        go_wp2
        go_ret
        exact ⟨ret_bool HE.out.symm, (Below.refl _ _).alloc (Nat.le_refl _) _⟩
  · have HE : Hid (recRightB k t d = false) := right_no (by omega)
    have ht' : t < 1 ∨ 1000000 < t := by omega
    clear ht
    rcases ht' with ht | ht
    all_goals
      go_enter Tryz.func200, Tryz.ntmps200
      go_wp2
      go_ret
      exact ⟨ret_bool HE.out.symm, (Below.refl _ _).alloc (Nat.le_refl _) _⟩
end Go.Proofs.YtahccighonddaaaGreatDoor
namespace Go.Proofs.YtahccighonddaaaGreatDoor
open Go.RowKit
theorem recOfRes_1 {b : ByteArray} {c : Nat} (h1 : numRes b 0 = (0, 0, c)) (hc : c ≠ 0) : recOfRes b = (0, 0, ⟨#[]⟩) := by
  simp [recOfRes, h1, hc]
theorem recOfRes_2 {b : ByteArray} {k : Int} {p c : Nat} (h1 : numRes b 0 = (k, (p : Int), 0)) (h2 : numRes b p = (0, 0, c)) (hc : c ≠ 0) : recOfRes b = (0, 0, ⟨#[]⟩) := by
  simp [recOfRes, h1, h2, hc]
theorem recOfRes_3 {b d : ByteArray} {k t a : Int} {p q c : Nat} (h1 : numRes b 0 = (k, (p : Int), 0)) (h2 : numRes b p = (t, (q : Int), 0)) (h3 : textRes b q = (d, a, c)) (hc : c ≠ 0) : recOfRes b = (0, 0, ⟨#[]⟩) := by
  simp [recOfRes, h1, h2, h3, hc]
theorem recOfRes_4 {b d : ByteArray} {k t a : Int} {p q : Nat} (h1 : numRes b 0 = (k, (p : Int), 0)) (h2 : numRes b p = (t, (q : Int), 0)) (h3 : textRes b q = (d, a, 0)) (h : ¬ (a = (b.size : Int) ∧ recRightB k t d = true)) : recOfRes b = (0, 0, ⟨#[]⟩) := by
  simp only [recOfRes, h1, h2, h3]
  simp
  intro e1 e2
  exact absurd ⟨e1, e2⟩ h
theorem recOfRes_5 {b d : ByteArray} {k t a : Int} {p q : Nat} (h1 : numRes b 0 = (k, (p : Int), 0)) (h2 : numRes b p = (t, (q : Int), 0)) (h3 : textRes b q = (d, a, 0)) (h : a = (b.size : Int)) (hR : recRightB k t d = true) : recOfRes b = (k, t, d) := by
  simp [recOfRes, h1, h2, h3, h, hR]
theorem recOf_1 (b : ByteArray) (c : Nat) (w : World)
    (H : ∀ w, Calls Tryz.prog 256 #[.string b, .int .i64 0] w fun e w' => e = .returned (.tuple #[.int .i64 0, .int .i64 0, fault c]) ∧ w' = w) :
    Calls Tryz.prog 250 #[.string b] w fun e w' => e = .returned (recV 0 0 ⟨#[]⟩) ∧ Below w.heap.size w w' := by
  have HH : Hid _ := H
  clear H
  go_enter Tryz.func250, Tryz.ntmps250
  go_wp2_with (first | (go_at_call 256; refine (HH.out _).mono ?_; rintro e w' ⟨rfl, rfl⟩))
  exact bodyPost_ret (v := recV 0 0 ⟨#[]⟩) (by simp [results, Tryz.results250, go_sem]) rfl ⟨rfl, (Below.refl _ _).alloc (Nat.le_refl _) _⟩
set_option maxHeartbeats 1000000 in
theorem recOf_2 (b : ByteArray) (k : Int) (p c : Nat) (w : World)
    (H1 : ∀ w, Calls Tryz.prog 256 #[.string b, .int .i64 0] w fun e w' => e = .returned (.tuple #[.int .i64 k, .int .i64 p, .nilIface]) ∧ w' = w)
    (H2 : ∀ w, Calls Tryz.prog 256 #[.string b, .int .i64 p] w fun e w' => e = .returned (.tuple #[.int .i64 0, .int .i64 0, fault c]) ∧ w' = w) :
    Calls Tryz.prog 250 #[.string b] w fun e w' => e = .returned (recV 0 0 ⟨#[]⟩) ∧ Below w.heap.size w w' := by
  have HH1 : Hid _ := H1
  have HH2 : Hid _ := H2
  clear H1 H2
  go_enter Tryz.func250, Tryz.ntmps250
  go_wp2_with fail
  refine (HH1.out _).mono ?_
  rintro e w1 ⟨rfl, rfl⟩
  go_wp2_with fail
  refine (HH2.out _).mono ?_
  rintro e w1 ⟨rfl, rfl⟩
  go_wp2
  exact bodyPost_ret (v := recV 0 0 ⟨#[]⟩) (by simp [results, Tryz.results250, go_sem]) rfl ⟨rfl, (Below.refl _ _).alloc (Nat.le_refl _) _⟩
set_option maxHeartbeats 1000000 in
theorem recOf_3 (b : ByteArray) (k t : Int) (p q c : Nat) (w : World)
    (H1 : ∀ w, Calls Tryz.prog 256 #[.string b, .int .i64 0] w fun e w' => e = .returned (.tuple #[.int .i64 k, .int .i64 p, .nilIface]) ∧ w' = w)
    (H2 : ∀ w, Calls Tryz.prog 256 #[.string b, .int .i64 p] w fun e w' => e = .returned (.tuple #[.int .i64 t, .int .i64 q, .nilIface]) ∧ w' = w)
    (H3 : ∀ w, Calls Tryz.prog 257 #[.string b, .int .i64 q] w fun e w' => e = .returned (.tuple #[.string ⟨#[]⟩, .int .i64 0, fault c]) ∧ Below w.heap.size w w') :
    Calls Tryz.prog 250 #[.string b] w fun e w' => e = .returned (recV 0 0 ⟨#[]⟩) ∧ Below w.heap.size w w' := by
  have HH1 : Hid _ := H1
  have HH2 : Hid _ := H2
  have HH3 : Hid _ := H3
  clear H1 H2 H3
  go_enter Tryz.func250, Tryz.ntmps250
  go_wp2_with fail
  refine (HH1.out _).mono ?_
  rintro e w1 ⟨rfl, rfl⟩
  go_wp2_with fail
  refine (HH2.out _).mono ?_
  rintro e w1 ⟨rfl, rfl⟩
  go_wp2_with fail
  refine (HH3.out _).mono ?_
  rintro e w2 ⟨rfl, hb2⟩
  have hc2 := fun o => hb2.cell (p := ⟨w.heap.size, o, none⟩) (by simp)
  have hf2 := fun o => hb2.frozen (p := ⟨w.heap.size, o, none⟩) (by simp)
  have hB : Below w.heap.size w w2 := ((Below.refl _ _).alloc (Nat.le_refl _) _).trans (hb2.mono (by simp))
  go_wp2
  exact bodyPost_ret (v := recV 0 0 ⟨#[]⟩) (by simp [results, Tryz.results250, go_sem, hc2]) rfl ⟨rfl, ((hB.setCell (by simp) _).setCell (by simp) _).setCell (by simp) _⟩
set_option maxHeartbeats 1000000 in
theorem recOf_4 (b d : ByteArray) (k t a : Int) (p q : Nat) (w : World) (_hb : b.size ≤ 8000) (hd : d.size ≤ maxLen) (hT : utabs w)
    (H1 : ∀ w, Calls Tryz.prog 256 #[.string b, .int .i64 0] w fun e w' => e = .returned (.tuple #[.int .i64 k, .int .i64 p, .nilIface]) ∧ w' = w)
    (H2 : ∀ w, Calls Tryz.prog 256 #[.string b, .int .i64 p] w fun e w' => e = .returned (.tuple #[.int .i64 t, .int .i64 q, .nilIface]) ∧ w' = w)
    (H3 : ∀ w, Calls Tryz.prog 257 #[.string b, .int .i64 q] w fun e w' => e = .returned (.tuple #[.string d, .int .i64 a, .nilIface]) ∧ Below w.heap.size w w')
    (hno : ¬ (a = (b.size : Int) ∧ recRightB k t d = true)) :
    Calls Tryz.prog 250 #[.string b] w fun e w' => e = .returned (recV 0 0 ⟨#[]⟩) ∧ Below w.heap.size w w' := by
  have HH1 : Hid _ := H1
  have HH2 : Hid _ := H2
  have HH3 : Hid _ := H3
  have HR : Hid _ := fun w h => impl_recRight k t d w hd h
  have HT : Hid (utabs (w.alloc (.cells #[.int .i64 0, .int .i64 0, .string ⟨#[]⟩] 65))) := utabs_alloc hT _
  clear H1 H2 H3 hT
  go_enter Tryz.func250, Tryz.ntmps250
  go_wp2_with fail
  refine (HH1.out _).mono ?_
  rintro e w1 ⟨rfl, rfl⟩
  go_wp2_with fail
  refine (HH2.out _).mono ?_
  rintro e w1 ⟨rfl, rfl⟩
  go_wp2_with fail
  refine (HH3.out _).mono ?_
  rintro e w2 ⟨rfl, hb2⟩
  have hc2 := fun o => hb2.cell (p := ⟨w.heap.size, o, none⟩) (by simp)
  have hf2 := fun o => hb2.frozen (p := ⟨w.heap.size, o, none⟩) (by simp)
  have hz2 : w.heap.size < w2.heap.size := by have h := hb2.size; simp at h; omega
  have HT2 : Hid (utabs (w2.alloc (.cells #[.int .i64 k, .int .i64 t, .string d] 65))) := utabs_alloc (utabs_below HT.out hb2) _
  have hB : Below w.heap.size w w2 := ((Below.refl _ _).alloc (Nat.le_refl _) _).trans (hb2.mono (by simp))
  by_cases ha : a = (b.size : Int)
  · have hR : recRightB k t d = false := by
      cases h : recRightB k t d
      · rfl
      · exact absurd ⟨ha, h⟩ hno
    rw [hR] at HR
    have hab : (a != (b.size : Int)) = false := by simp [ha]
    clear hno hR ha
    go_wp2_with fail
    refine (HR.out _ HT2.out).mono ?_
    rintro e w3 ⟨rfl, hb3⟩
    have hz3 : w.heap.size < w3.heap.size := by have h := hb3.size; simp at h; omega
    have hc3 := fun o => hb3.cell (p := ⟨w.heap.size, o, none⟩) (by simp; omega)
    have hf3 := fun o => hb3.frozen (p := ⟨w.heap.size, o, none⟩) (by simp; omega)
    have hB3 : Below w.heap.size w w3 := (hB.alloc (by omega) _).trans (hb3.mono (by simp; omega))
    go_wp2
    exact bodyPost_ret (v := recV 0 0 ⟨#[]⟩) (by simp [results, Tryz.results250, go_sem, hc2, hc3, World.cell?_alloc_lt, hz2]) rfl ⟨rfl, ((hB3.setCell (by simp) _).setCell (by simp) _).setCell (by simp) _⟩
  · have hab : (a != (b.size : Int)) = true := by simp [ha]
    clear hno ha
    go_wp2
    exact bodyPost_ret (v := recV 0 0 ⟨#[]⟩) (by simp [results, Tryz.results250, go_sem, hc2, World.cell?_alloc_lt, hz2]) rfl ⟨rfl, (((hB.setCell (by simp) _).setCell (by simp) _).setCell (by simp) _).alloc (by simp; omega) _⟩
set_option maxHeartbeats 1000000 in
theorem recOf_5 (b d : ByteArray) (k t : Int) (p q : Nat) (w : World) (_hb : b.size ≤ 8000) (hd : d.size ≤ maxLen) (hT : utabs w)
    (H1 : ∀ w, Calls Tryz.prog 256 #[.string b, .int .i64 0] w fun e w' => e = .returned (.tuple #[.int .i64 k, .int .i64 p, .nilIface]) ∧ w' = w)
    (H2 : ∀ w, Calls Tryz.prog 256 #[.string b, .int .i64 p] w fun e w' => e = .returned (.tuple #[.int .i64 t, .int .i64 q, .nilIface]) ∧ w' = w)
    (H3 : ∀ w, Calls Tryz.prog 257 #[.string b, .int .i64 q] w fun e w' => e = .returned (.tuple #[.string d, .int .i64 (b.size : Int), .nilIface]) ∧ Below w.heap.size w w')
    (hR : recRightB k t d = true) :
    Calls Tryz.prog 250 #[.string b] w fun e w' => e = .returned (recV k t d) ∧ Below w.heap.size w w' := by
  have HH1 : Hid _ := H1
  have HH2 : Hid _ := H2
  have HH3 : Hid _ := H3
  have HR : Hid _ := fun w h => impl_recRight k t d w hd h
  have HT : Hid (utabs (w.alloc (.cells #[.int .i64 0, .int .i64 0, .string ⟨#[]⟩] 65))) := utabs_alloc hT _
  rw [hR] at HR
  clear H1 H2 H3 hT hR
  have hab : ((b.size : Int) != (b.size : Int)) = false := by simp
  go_enter Tryz.func250, Tryz.ntmps250
  go_wp2_with fail
  refine (HH1.out _).mono ?_
  rintro e w1 ⟨rfl, rfl⟩
  go_wp2_with fail
  refine (HH2.out _).mono ?_
  rintro e w1 ⟨rfl, rfl⟩
  go_wp2_with fail
  refine (HH3.out _).mono ?_
  rintro e w2 ⟨rfl, hb2⟩
  have hc2 := fun o => hb2.cell (p := ⟨w.heap.size, o, none⟩) (by simp)
  have hf2 := fun o => hb2.frozen (p := ⟨w.heap.size, o, none⟩) (by simp)
  have hz2 : w.heap.size < w2.heap.size := by have h := hb2.size; simp at h; omega
  have HT2 : Hid (utabs (w2.alloc (.cells #[.int .i64 k, .int .i64 t, .string d] 65))) := utabs_alloc (utabs_below HT.out hb2) _
  have hB : Below w.heap.size w w2 := ((Below.refl _ _).alloc (Nat.le_refl _) _).trans (hb2.mono (by simp))
  go_wp2_with fail
  refine (HR.out _ HT2.out).mono ?_
  rintro e w3 ⟨rfl, hb3⟩
  have hz3 : w.heap.size < w3.heap.size := by have h := hb3.size; simp at h; omega
  have hc3 := fun o => hb3.cell (p := ⟨w.heap.size, o, none⟩) (by simp; omega)
  have hf3 := fun o => hb3.frozen (p := ⟨w.heap.size, o, none⟩) (by simp; omega)
  have hd3 := fun o => hb3.cell (p := ⟨w2.heap.size, o, none⟩) (by simp)
  have hB3 : Below w.heap.size w w3 := (hB.alloc (by omega) _).trans (hb3.mono (by simp; omega))
  go_wp2
  exact bodyPost_ret (v := recV k t d) (by simp [results, Tryz.results250, go_sem, hc2, hc3, World.cell?_alloc_lt, hz2]) rfl ⟨rfl, ((hB3.setCell (by simp) _).setCell (by simp) _).setCell (by simp) _⟩
theorem errOf_bad {c : Nat} (h : c ≠ 0) : errOf c = fault c := by rw [errOf, if_neg h]
theorem impl_recOf (b : ByteArray) (w : World) (hb : b.size ≤ 8000) (hT : utabs w) :
    Calls Tryz.prog 250 #[.string b] w fun e w' => e = .returned (recV (recOfRes b).1 (recOfRes b).2.1 (recOfRes b).2.2) ∧ Below w.heap.size w w' := by
  have hm : b.size ≤ maxLen := by unfold maxLen; omega
  have H1 := fun w => impl_readNum b 0 w hm
  rcases numRes_cases b 0 with ⟨c, hc, e⟩ | ⟨k, p, e1, hp, _⟩
  · rw [recOfRes_1 e hc]
    rw [e] at H1
    simp only [numTup, errOf_bad hc] at H1
    exact recOf_1 b c w H1
  rw [e1] at H1
  have H2 := fun w => impl_readNum b p w hm
  rcases numRes_cases b p with ⟨c, hc, e⟩ | ⟨t, q, e2, hq, _⟩
  · rw [recOfRes_2 e1 e hc]
    rw [e] at H2
    simp only [numTup, errOf_bad hc] at H2
    exact recOf_2 b k p c w H1 H2
  rw [e2] at H2
  have H3 := fun w => impl_readText b q w hm
  rcases text_cases b q with ⟨c, hc, e⟩ | ⟨N, r, e, hr, hs, hN⟩ | ⟨N, r, e, hr, hs, hN, hlt⟩ | ⟨N, r, e, hr, hs, hN, hlt⟩
  · have e3 := textRes_bad e hc
    rw [recOfRes_3 e1 e2 e3 hc]
    rw [e3] at H3
    simp only [errOf_bad hc] at H3
    exact recOf_3 b k t p q c w H1 H2 H3
  · have e3 := textRes_len e hN
    rw [recOfRes_3 e1 e2 e3 (by omega)]
    rw [e3] at H3
    exact recOf_3 b k t p q 3 w H1 H2 H3
  · have e3 := textRes_short e hN hlt
    rw [recOfRes_3 e1 e2 e3 (by omega)]
    rw [e3] at H3
    exact recOf_3 b k t p q 4 w H1 H2 H3
  · have e3 := textRes_good e hN hlt
    have hd : (b.extract r (r + N)).size ≤ maxLen := by unfold maxLen; simp; omega
    rw [e3] at H3
    by_cases h : ((r + N : Nat) : Int) = (b.size : Int) ∧ recRightB k t (b.extract r (r + N)) = true
    · rw [recOfRes_5 e1 e2 e3 h.1 h.2]
      rw [h.1] at H3
      exact recOf_5 b _ k t p q w hb hd hT H1 H2 H3 h.2
    · rw [recOfRes_4 e1 e2 e3 h]
      exact recOf_4 b _ k t _ p q w hb hd hT H1 H2 H3 h
abbrev recOut (k t : Int) (d : ByteArray) (c : Int) : Value := .agg #[.int .i64 k, .int .i64 t, .string d, .int .i64 c]
set_option maxHeartbeats 1000000 in
theorem recRead_code (s : ByteArray) (c : Nat) (w : World) (hc : c ≠ 0)
    (H : ∀ w, Calls Tryz.prog 249 #[.string s] w fun e w' => e = .returned (textOut ⟨#[]⟩ 0 c) ∧ Below w.heap.size w w') :
    Calls Tryz.prog 233 #[.string s] w fun e w' => e = .returned (recOut 0 0 ⟨#[]⟩ c) ∧ Below w.heap.size w w' := by
  have HH : Hid _ := H
  have hcb : ((c : Int) != 0) = true := by rw [bne_iff_ne]; omega
  clear H hc
  go_enter Tryz.func233, Tryz.ntmps233
  go_wp2_with fail
  refine (HH.out _).mono ?_
  rintro e w1 ⟨rfl, hb1⟩
  have hz1 : w.heap.size < w1.heap.size := by have h := hb1.size; simp at h; omega
  have hc1 := fun o => hb1.cell (p := ⟨w.heap.size, o, none⟩) (by simp)
  have hf1 := fun o => hb1.frozen (p := ⟨w.heap.size, o, none⟩) (by simp)
  have hB : Below w.heap.size w w1 := ((Below.refl _ _).alloc (Nat.le_refl _) _).trans (hb1.mono (by simp))
  go_wp2
  exact bodyPost_ret (v := recOut 0 0 ⟨#[]⟩ c) (by simp [results, Tryz.results233, go_sem, hc1, World.cell?_alloc_lt, hz1]) rfl ⟨rfl, (((((hB.setCell (by simp) _).setCell (by simp) _).setCell (by simp) _).setCell (by simp) _).alloc (by simp; omega) _)⟩
end Go.Proofs.YtahccighonddaaaGreatDoor
namespace Go.Proofs.YtahccighonddaaaGreatDoor
open Go.RowKit
set_option maxHeartbeats 1000000 in
theorem recRead_zero (s b : ByteArray) (w : World) (hT : utabs w)
    (H : ∀ w, Calls Tryz.prog 249 #[.string s] w fun e w' => e = .returned (textOut b 0 0) ∧ Below w.heap.size w w')
    (H2 : ∀ w, utabs w → Calls Tryz.prog 250 #[.string b] w fun e w' => e = .returned (recV 0 0 ⟨#[]⟩) ∧ Below w.heap.size w w') :
    Calls Tryz.prog 233 #[.string s] w fun e w' => e = .returned (recOut 0 0 ⟨#[]⟩ 3) ∧ Below w.heap.size w w' := by
  have HH : Hid _ := H
  have HH2 : Hid _ := H2
  have HT : Hid (utabs w) := hT
  clear H H2 hT
  go_enter Tryz.func233, Tryz.ntmps233
  go_wp2_with fail
  refine (HH.out _).mono ?_
  rintro e w1 ⟨rfl, hb1⟩
  have hz1 : w.heap.size < w1.heap.size := by have h := hb1.size; simp at h; omega
  have hc1 := fun o => hb1.cell (p := ⟨w.heap.size, o, none⟩) (by simp)
  have hf1 := fun o => hb1.frozen (p := ⟨w.heap.size, o, none⟩) (by simp)
  have hB : Below w.heap.size w w1 := ((Below.refl _ _).alloc (Nat.le_refl _) _).trans (hb1.mono (by simp))
  have HT1 : Hid (utabs (w1.alloc (.cells #[.string b, .int .i64 0, .int .i64 0] 203))) := utabs_alloc (utabs_below HT.out hB) _
  go_wp2_with fail
  refine (HH2.out _ HT1.out).mono ?_
  rintro e w2 ⟨rfl, hb2⟩
  have hz2 : w1.heap.size < w2.heap.size := by have h := hb2.size; simp at h; omega
  have hc2 := fun o => hb2.cell (p := ⟨w.heap.size, o, none⟩) (by simp; omega)
  have hf2 := fun o => hb2.frozen (p := ⟨w.heap.size, o, none⟩) (by simp; omega)
  have hz3 : w.heap.size < w2.heap.size := by omega
  have hB2 : Below w.heap.size w w2 := (hB.alloc (by omega) _).trans (hb2.mono (by simp; omega))
  go_wp2
  exact bodyPost_ret (v := recOut 0 0 ⟨#[]⟩ 3) (by simp [results, Tryz.results233, go_sem, hc1, hc2, World.cell?_alloc_lt, hz1, hz3]) rfl ⟨rfl, (((((hB2.setCell (by simp) _).setCell (by simp) _).setCell (by simp) _).setCell (by simp) _).alloc (by simp; omega) _)⟩
set_option maxHeartbeats 1000000 in
theorem recRead_some (s b d : ByteArray) (k t : Int) (w : World) (hT : utabs w) (hk : k ≠ 0)
    (H : ∀ w, Calls Tryz.prog 249 #[.string s] w fun e w' => e = .returned (textOut b 0 0) ∧ Below w.heap.size w w')
    (H2 : ∀ w, utabs w → Calls Tryz.prog 250 #[.string b] w fun e w' => e = .returned (recV k t d) ∧ Below w.heap.size w w') :
    Calls Tryz.prog 233 #[.string s] w fun e w' => e = .returned (recOut k t d 0) ∧ Below w.heap.size w w' := by
  have HH : Hid _ := H
  have HH2 : Hid _ := H2
  have HT : Hid (utabs w) := hT
  have hkb : (k == 0) = false := by rw [beq_eq_false_iff_ne]; exact hk
  clear H H2 hT hk
  go_enter Tryz.func233, Tryz.ntmps233
  go_wp2_with fail
  refine (HH.out _).mono ?_
  rintro e w1 ⟨rfl, hb1⟩
  have hz1 : w.heap.size < w1.heap.size := by have h := hb1.size; simp at h; omega
  have hc1 := fun o => hb1.cell (p := ⟨w.heap.size, o, none⟩) (by simp)
  have hf1 := fun o => hb1.frozen (p := ⟨w.heap.size, o, none⟩) (by simp)
  have hB : Below w.heap.size w w1 := ((Below.refl _ _).alloc (Nat.le_refl _) _).trans (hb1.mono (by simp))
  have HT1 : Hid (utabs (w1.alloc (.cells #[.string b, .int .i64 0, .int .i64 0] 203))) := utabs_alloc (utabs_below HT.out hB) _
  go_wp2_with fail
  refine (HH2.out _ HT1.out).mono ?_
  rintro e w2 ⟨rfl, hb2⟩
  have hz2 : w1.heap.size < w2.heap.size := by have h := hb2.size; simp at h; omega
  have hc2 := fun o => hb2.cell (p := ⟨w.heap.size, o, none⟩) (by simp; omega)
  have hf2 := fun o => hb2.frozen (p := ⟨w.heap.size, o, none⟩) (by simp; omega)
  have hz3 : w.heap.size < w2.heap.size := by omega
  have hB2 : Below w.heap.size w w2 := (hB.alloc (by omega) _).trans (hb2.mono (by simp; omega))
  go_wp2
  exact bodyPost_ret (v := recOut k t d 0) (by simp [results, Tryz.results233, go_sem, hc1, hc2, World.cell?_alloc_lt, hz1, hz3]) rfl ⟨rfl, (((((hB2.setCell (by simp) _).setCell (by simp) _).setCell (by simp) _).setCell (by simp) _).alloc (by simp; omega) _)⟩
def readRes (s : ByteArray) : Int × Int × ByteArray × Nat :=
  if 8000 < s.size then (0, 0, ⟨#[]⟩, 2) else if s.size < 4 then (0, 0, ⟨#[]⟩, 4) else if sealedB s = false then (0, 0, ⟨#[]⟩, 5)
    else let r := recOfRes (s.extract 0 (s.size - 4))
      if r.1 = 0 then (0, 0, ⟨#[]⟩, 3) else (r.1, r.2.1, r.2.2, 0)
abbrev recOutV (r : Int × Int × ByteArray × Nat) : Value := recOut r.1 r.2.1 r.2.2.1 (r.2.2.2 : Int)
theorem recOfRes_cases (b : ByteArray) : recOfRes b = (0, 0, ⟨#[]⟩) ∨ (∃ k t d, recOfRes b = (k, t, d) ∧ recRightB k t d = true ∧ k ≠ 0) := by
  by_cases h : recOfRes b = (0, 0, ⟨#[]⟩)
  · exact .inl h
  · right
    unfold recOfRes at h ⊢
    simp only at h ⊢
    split at h
    · exact absurd rfl h
    · rename_i h1
      rw [if_neg h1]
      split at h
      · exact absurd rfl h
      · rename_i h2
        rw [if_neg h2]
        split at h
        · exact absurd rfl h
        · rename_i h3
          rw [if_neg h3]
          split at h
          · rename_i h4
            rw [if_pos h4]
            refine ⟨_, _, _, rfl, h4.2, ?_⟩
            have := (right_iff.1 h4.2).1
            omega
          · exact absurd rfl h
theorem impl_recRead (s : ByteArray) (w : World) (hm : s.size ≤ maxLen) (hT : utabs w) :
    Calls Tryz.prog 233 #[.string s] w fun e w' => e = .returned (recOutV (readRes s)) ∧ Below w.heap.size w w' := by
  unfold readRes
  by_cases h1 : 8000 < s.size
  · rw [if_pos h1]
    exact recRead_code s 2 w (by omega) (fun w => impl_unseal_size s w hm h1)
  rw [if_neg h1]
  by_cases h2 : s.size < 4
  · rw [if_pos h2]
    exact recRead_code s 4 w (by omega) (fun w => impl_unseal_short s w h2)
  rw [if_neg h2]
  cases h3 : sealedB s
  · rw [if_pos rfl]
    exact recRead_code s 5 w (by omega) (fun w => impl_unseal_bad s w (by omega) (by omega) h3)
  · rw [if_neg (by simp)]
    have HU := fun w => impl_unseal_good s w (by omega) (by omega) h3
    have hb : (s.extract 0 (s.size - 4)).size ≤ 8000 := by simp; omega
    have HR := fun w h => impl_recOf (s.extract 0 (s.size - 4)) w hb h
    generalize s.extract 0 (s.size - 4) = b at HU HR
    rcases recOfRes_cases b with e | ⟨k, t, d, e, _, hk⟩
    · rw [e] at HR ⊢
      exact recRead_zero s b w hT HU HR
    · rw [e] at HR ⊢
      simp only [if_neg hk]
      exact recRead_some s b d k t w hT hk HU HR
end Go.Proofs.YtahccighonddaaaGreatDoor
namespace Go.Proofs.YtahccighonddaaaGreatDoor
open Go.RowKit
set_option linter.unusedVariables false
theorem spec_recBytes (k t : Int) (d : ByteArray) (w : World) (hm : d.size ≤ maxLen) :
    Calls Tryz.prog 171 #[recV k t d] w fun e w' => e = .returned (.string ⟨(recBytes k t d).toArray⟩) ∧ Below w.heap.size w w' := by
  have HR : Hid _ := fun w => spec_recRight k t d w hm
  clear hm
  unfold recBytes
  cases hR : recRightB k t d
  · rw [hR] at HR
    go_enter Tryz.func171, Tryz.ntmps171
    go_wp2_with (first | (go_at_call 211; refine (HR.out _).mono ?_; rintro e w1 ⟨rfl, hb1⟩))
    go_ret
    exact ⟨rfl, ((Below.refl _ _).alloc (Nat.le_refl _) _).trans (hb1.mono (by simp))⟩
  · have HL : Hid _ := fun w => spec_l02Bytes k t d w hR
    rw [hR] at HR
    clear hR
    go_enter Tryz.func171, Tryz.ntmps171
    go_wp2_with fail
    refine (HR.out _).mono ?_
    rintro e w1 ⟨rfl, hb1⟩
    have hc1 := fun o => hb1.cell (p := ⟨w.heap.size, o, none⟩) (by simp)
    have hB : Below w.heap.size w w1 := ((Below.refl _ _).alloc (Nat.le_refl _) _).trans (hb1.mono (by simp))
    go_wp2_with fail
    refine (HL.out _).mono ?_
    rintro e w2 ⟨rfl, hb2⟩
    go_wp2
    go_ret
    exact ⟨rfl, hB.trans (hb2.mono hB.size)⟩
set_option maxHeartbeats 1000000 in
theorem spec_read_code (s : ByteArray) (c : Nat) (w : World) (hc : c ≠ 0)
    (H : ∀ w, Calls Tryz.prog 168 #[.string s] w fun e w' => e = .returned (textOut ⟨#[]⟩ 0 c) ∧ Below w.heap.size w w') :
    Calls Tryz.prog 114 #[.string s] w fun e w' => e = .returned (recOut 0 0 ⟨#[]⟩ c) ∧ Below w.heap.size w w' := by
  have HH : Hid _ := H
  have hcb : ((c : Int) != 0) = true := by rw [bne_iff_ne]; omega
  clear H hc
  go_enter Tryz.func114, Tryz.ntmps114
  go_wp2_with fail
  refine (HH.out _).mono ?_
  rintro e w1 ⟨rfl, hb1⟩
  have hz1 : w.heap.size < w1.heap.size := by have h := hb1.size; simp at h; omega
  have hc1 := fun o => hb1.cell (p := ⟨w.heap.size, o, none⟩) (by simp)
  have hf1 := fun o => hb1.frozen (p := ⟨w.heap.size, o, none⟩) (by simp)
  have hB : Below w.heap.size w w1 := ((Below.refl _ _).alloc (Nat.le_refl _) _).trans (hb1.mono (by simp))
  go_wp2
  exact bodyPost_ret (v := recOut 0 0 ⟨#[]⟩ c) (by simp [results, Tryz.results114, go_sem, hc1, World.cell?_alloc_lt, hz1]) rfl ⟨rfl, (((((hB.setCell (by simp) _).setCell (by simp) _).setCell (by simp) _).setCell (by simp) _).alloc (by simp; omega) _)⟩
set_option maxHeartbeats 4000000 in
theorem spec_read_1 (s b d : ByteArray) (B : List UInt8) (k n a1 a2 a3 : Int) (c1 c2 c3 : Nat) (w : World) (hc : c1 ≠ 0)
    (H0 : ∀ w, Calls Tryz.prog 168 #[.string s] w fun e w' => e = .returned (textOut b 0 0) ∧ Below w.heap.size w w')
    (H1 : ∀ w, Calls Tryz.prog 169 #[.string b, .int .i64 0] w fun e w' => e = .returned (.agg #[.int .i64 k, .int .i64 a1, .int .i64 c1]) ∧ Below w.heap.size w w')
    (H2 : ∀ w, Calls Tryz.prog 169 #[.string b, .int .i64 a1] w fun e w' => e = .returned (.agg #[.int .i64 n, .int .i64 a2, .int .i64 c2]) ∧ Below w.heap.size w w')
    (H3 : ∀ w, Calls Tryz.prog 170 #[.string b, .int .i64 a2] w fun e w' => e = .returned (textOut d a3 c3) ∧ Below w.heap.size w w')
    (H4 : ∀ w, Calls Tryz.prog 171 #[recV k n d] w fun e w' => e = .returned (.string ⟨B.toArray⟩) ∧ Below w.heap.size w w') :
    Calls Tryz.prog 114 #[.string s] w fun e w' => e = .returned (recOut 0 0 ⟨#[]⟩ 3) ∧ Below w.heap.size w w' := by
  have HH0 : Hid _ := H0
  have HH1 : Hid _ := H1
  have HH2 : Hid _ := H2
  have HH3 : Hid _ := H3
  have HH4 : Hid _ := H4
  clear H0 H1 H2 H3 H4
  have hcb : ((c1 : Int) != 0) = true := by rw [bne_iff_ne]; omega
  clear hc
  go_enter Tryz.func114, Tryz.ntmps114
  go_wp2_with fail
  refine (HH0.out _).mono ?_
  rintro e w1 ⟨rfl, hb1⟩
  have hz1 : w.heap.size < w1.heap.size := by have h := hb1.size; simp at h; omega
  have hc1 := fun o => hb1.cell (p := ⟨w.heap.size, o, none⟩) (by simp)
  have hf1 := fun o => hb1.frozen (p := ⟨w.heap.size, o, none⟩) (by simp)
  have hB1 : Hid (Below w.heap.size w w1) := ((Below.refl _ _).alloc (Nat.le_refl _) _).trans (hb1.mono (by simp))
  clear hb1
  go_wp2_with fail
  refine (HH1.out _).mono ?_
  rintro e w2 ⟨rfl, hb2⟩
  have hz2 : w1.heap.size < w2.heap.size := by have h := hb2.size; simp at h; omega
  have hz2' : w.heap.size < w2.heap.size := by omega
  have hc2 := fun o => hb2.cell (p := ⟨w.heap.size, o, none⟩) (by simp; omega)
  have hf2 := fun o => hb2.frozen (p := ⟨w.heap.size, o, none⟩) (by simp; omega)
  have hd2 := fun o => hb2.cell (p := ⟨w1.heap.size, o, none⟩) (by simp)
  have hB2 : Hid (Below w.heap.size w w2) := (hB1.out.alloc (by omega) _).trans (hb2.mono (by simp; omega))
  clear hb2
  go_wp2_with fail
  refine (HH2.out _).mono ?_
  rintro e w3 ⟨rfl, hb3⟩
  have hz3 : w2.heap.size < w3.heap.size := by have h := hb3.size; simp at h; omega
  have hz3' : w1.heap.size < w3.heap.size := by omega
  have hz3'' : w.heap.size < w3.heap.size := by omega
  have hc3 := fun o => hb3.cell (p := ⟨w.heap.size, o, none⟩) (by simp; omega)
  have hf3 := fun o => hb3.frozen (p := ⟨w.heap.size, o, none⟩) (by simp; omega)
  have hd3 := fun o => hb3.cell (p := ⟨w1.heap.size, o, none⟩) (by simp; omega)
  have he3 := fun o => hb3.cell (p := ⟨w2.heap.size, o, none⟩) (by simp)
  have hB3 : Hid (Below w.heap.size w w3) := (hB2.out.alloc (by omega) _).trans (hb3.mono (by simp; omega))
  clear hb3
  go_wp2_with fail
  refine (HH3.out _).mono ?_
  rintro e w4 ⟨rfl, hb4⟩
  have hz4 : w3.heap.size < w4.heap.size := by have h := hb4.size; simp at h; omega
  have hz4' : w2.heap.size < w4.heap.size := by omega
  have hz4'' : w.heap.size < w4.heap.size := by omega
  have hc4 := fun o => hb4.cell (p := ⟨w.heap.size, o, none⟩) (by simp; omega)
  have hf4 := fun o => hb4.frozen (p := ⟨w.heap.size, o, none⟩) (by simp; omega)
  have he4 := fun o => hb4.cell (p := ⟨w2.heap.size, o, none⟩) (by simp; omega)
  have hg4 := fun o => hb4.cell (p := ⟨w3.heap.size, o, none⟩) (by simp)
  have hB4 : Hid (Below w.heap.size w w4) := (hB3.out.alloc (by omega) _).trans (hb4.mono (by simp; omega))
  clear hb4
  go_wp2
  exact bodyPost_ret (v := recOut 0 0 ⟨#[]⟩ 3) (by simp [results, Tryz.results114, go_sem, hc1, hc2, hc3, hc4, World.cell?_alloc_lt, hz1, hz2', hz3'', hz4'']) rfl ⟨rfl, ((((((hB4.out.setCell (by simp) _).setCell (by simp) _).setCell (by simp) _).setCell (by simp) _).alloc (by simp; omega) _).alloc (by simp; omega) _)⟩
set_option maxHeartbeats 4000000 in
theorem spec_read_2 (s b d : ByteArray) (B : List UInt8) (k n a1 a2 a3 : Int) (c1 c2 c3 : Nat) (w : World) (hc : c2 ≠ 0)
    (H0 : ∀ w, Calls Tryz.prog 168 #[.string s] w fun e w' => e = .returned (textOut b 0 0) ∧ Below w.heap.size w w')
    (H1 : ∀ w, Calls Tryz.prog 169 #[.string b, .int .i64 0] w fun e w' => e = .returned (.agg #[.int .i64 k, .int .i64 a1, .int .i64 0]) ∧ Below w.heap.size w w')
    (H2 : ∀ w, Calls Tryz.prog 169 #[.string b, .int .i64 a1] w fun e w' => e = .returned (.agg #[.int .i64 n, .int .i64 a2, .int .i64 c2]) ∧ Below w.heap.size w w')
    (H3 : ∀ w, Calls Tryz.prog 170 #[.string b, .int .i64 a2] w fun e w' => e = .returned (textOut d a3 c3) ∧ Below w.heap.size w w')
    (H4 : ∀ w, Calls Tryz.prog 171 #[recV k n d] w fun e w' => e = .returned (.string ⟨B.toArray⟩) ∧ Below w.heap.size w w') :
    Calls Tryz.prog 114 #[.string s] w fun e w' => e = .returned (recOut 0 0 ⟨#[]⟩ 3) ∧ Below w.heap.size w w' := by
  have HH0 : Hid _ := H0
  have HH1 : Hid _ := H1
  have HH2 : Hid _ := H2
  have HH3 : Hid _ := H3
  have HH4 : Hid _ := H4
  clear H0 H1 H2 H3 H4
  have hcb : ((c2 : Int) != 0) = true := by rw [bne_iff_ne]; omega
  clear hc
  go_enter Tryz.func114, Tryz.ntmps114
  go_wp2_with fail
  refine (HH0.out _).mono ?_
  rintro e w1 ⟨rfl, hb1⟩
  have hz1 : w.heap.size < w1.heap.size := by have h := hb1.size; simp at h; omega
  have hc1 := fun o => hb1.cell (p := ⟨w.heap.size, o, none⟩) (by simp)
  have hf1 := fun o => hb1.frozen (p := ⟨w.heap.size, o, none⟩) (by simp)
  have hB1 : Hid (Below w.heap.size w w1) := ((Below.refl _ _).alloc (Nat.le_refl _) _).trans (hb1.mono (by simp))
  clear hb1
  go_wp2_with fail
  refine (HH1.out _).mono ?_
  rintro e w2 ⟨rfl, hb2⟩
  have hz2 : w1.heap.size < w2.heap.size := by have h := hb2.size; simp at h; omega
  have hz2' : w.heap.size < w2.heap.size := by omega
  have hc2 := fun o => hb2.cell (p := ⟨w.heap.size, o, none⟩) (by simp; omega)
  have hf2 := fun o => hb2.frozen (p := ⟨w.heap.size, o, none⟩) (by simp; omega)
  have hd2 := fun o => hb2.cell (p := ⟨w1.heap.size, o, none⟩) (by simp)
  have hB2 : Hid (Below w.heap.size w w2) := (hB1.out.alloc (by omega) _).trans (hb2.mono (by simp; omega))
  clear hb2
  go_wp2_with fail
  refine (HH2.out _).mono ?_
  rintro e w3 ⟨rfl, hb3⟩
  have hz3 : w2.heap.size < w3.heap.size := by have h := hb3.size; simp at h; omega
  have hz3' : w1.heap.size < w3.heap.size := by omega
  have hz3'' : w.heap.size < w3.heap.size := by omega
  have hc3 := fun o => hb3.cell (p := ⟨w.heap.size, o, none⟩) (by simp; omega)
  have hf3 := fun o => hb3.frozen (p := ⟨w.heap.size, o, none⟩) (by simp; omega)
  have hd3 := fun o => hb3.cell (p := ⟨w1.heap.size, o, none⟩) (by simp; omega)
  have he3 := fun o => hb3.cell (p := ⟨w2.heap.size, o, none⟩) (by simp)
  have hB3 : Hid (Below w.heap.size w w3) := (hB2.out.alloc (by omega) _).trans (hb3.mono (by simp; omega))
  clear hb3
  go_wp2_with fail
  refine (HH3.out _).mono ?_
  rintro e w4 ⟨rfl, hb4⟩
  have hz4 : w3.heap.size < w4.heap.size := by have h := hb4.size; simp at h; omega
  have hz4' : w2.heap.size < w4.heap.size := by omega
  have hz4'' : w.heap.size < w4.heap.size := by omega
  have hc4 := fun o => hb4.cell (p := ⟨w.heap.size, o, none⟩) (by simp; omega)
  have hf4 := fun o => hb4.frozen (p := ⟨w.heap.size, o, none⟩) (by simp; omega)
  have he4 := fun o => hb4.cell (p := ⟨w2.heap.size, o, none⟩) (by simp; omega)
  have hg4 := fun o => hb4.cell (p := ⟨w3.heap.size, o, none⟩) (by simp)
  have hB4 : Hid (Below w.heap.size w w4) := (hB3.out.alloc (by omega) _).trans (hb4.mono (by simp; omega))
  clear hb4
  go_wp2
  exact bodyPost_ret (v := recOut 0 0 ⟨#[]⟩ 3) (by simp [results, Tryz.results114, go_sem, hc1, hc2, hc3, hc4, World.cell?_alloc_lt, hz1, hz2', hz3'', hz4'']) rfl ⟨rfl, ((((((hB4.out.setCell (by simp) _).setCell (by simp) _).setCell (by simp) _).setCell (by simp) _).alloc (by simp; omega) _).alloc (by simp; omega) _)⟩
set_option maxHeartbeats 4000000 in
theorem spec_read_3 (s b d : ByteArray) (B : List UInt8) (k n a1 a2 a3 : Int) (c1 c2 c3 : Nat) (w : World) (hc : c3 ≠ 0)
    (H0 : ∀ w, Calls Tryz.prog 168 #[.string s] w fun e w' => e = .returned (textOut b 0 0) ∧ Below w.heap.size w w')
    (H1 : ∀ w, Calls Tryz.prog 169 #[.string b, .int .i64 0] w fun e w' => e = .returned (.agg #[.int .i64 k, .int .i64 a1, .int .i64 0]) ∧ Below w.heap.size w w')
    (H2 : ∀ w, Calls Tryz.prog 169 #[.string b, .int .i64 a1] w fun e w' => e = .returned (.agg #[.int .i64 n, .int .i64 a2, .int .i64 0]) ∧ Below w.heap.size w w')
    (H3 : ∀ w, Calls Tryz.prog 170 #[.string b, .int .i64 a2] w fun e w' => e = .returned (textOut d a3 c3) ∧ Below w.heap.size w w')
    (H4 : ∀ w, Calls Tryz.prog 171 #[recV k n d] w fun e w' => e = .returned (.string ⟨B.toArray⟩) ∧ Below w.heap.size w w') :
    Calls Tryz.prog 114 #[.string s] w fun e w' => e = .returned (recOut 0 0 ⟨#[]⟩ 3) ∧ Below w.heap.size w w' := by
  have HH0 : Hid _ := H0
  have HH1 : Hid _ := H1
  have HH2 : Hid _ := H2
  have HH3 : Hid _ := H3
  have HH4 : Hid _ := H4
  clear H0 H1 H2 H3 H4
  have hcb : ((c3 : Int) != 0) = true := by rw [bne_iff_ne]; omega
  clear hc
  go_enter Tryz.func114, Tryz.ntmps114
  go_wp2_with fail
  refine (HH0.out _).mono ?_
  rintro e w1 ⟨rfl, hb1⟩
  have hz1 : w.heap.size < w1.heap.size := by have h := hb1.size; simp at h; omega
  have hc1 := fun o => hb1.cell (p := ⟨w.heap.size, o, none⟩) (by simp)
  have hf1 := fun o => hb1.frozen (p := ⟨w.heap.size, o, none⟩) (by simp)
  have hB1 : Hid (Below w.heap.size w w1) := ((Below.refl _ _).alloc (Nat.le_refl _) _).trans (hb1.mono (by simp))
  clear hb1
  go_wp2_with fail
  refine (HH1.out _).mono ?_
  rintro e w2 ⟨rfl, hb2⟩
  have hz2 : w1.heap.size < w2.heap.size := by have h := hb2.size; simp at h; omega
  have hz2' : w.heap.size < w2.heap.size := by omega
  have hc2 := fun o => hb2.cell (p := ⟨w.heap.size, o, none⟩) (by simp; omega)
  have hf2 := fun o => hb2.frozen (p := ⟨w.heap.size, o, none⟩) (by simp; omega)
  have hd2 := fun o => hb2.cell (p := ⟨w1.heap.size, o, none⟩) (by simp)
  have hB2 : Hid (Below w.heap.size w w2) := (hB1.out.alloc (by omega) _).trans (hb2.mono (by simp; omega))
  clear hb2
  go_wp2_with fail
  refine (HH2.out _).mono ?_
  rintro e w3 ⟨rfl, hb3⟩
  have hz3 : w2.heap.size < w3.heap.size := by have h := hb3.size; simp at h; omega
  have hz3' : w1.heap.size < w3.heap.size := by omega
  have hz3'' : w.heap.size < w3.heap.size := by omega
  have hc3 := fun o => hb3.cell (p := ⟨w.heap.size, o, none⟩) (by simp; omega)
  have hf3 := fun o => hb3.frozen (p := ⟨w.heap.size, o, none⟩) (by simp; omega)
  have hd3 := fun o => hb3.cell (p := ⟨w1.heap.size, o, none⟩) (by simp; omega)
  have he3 := fun o => hb3.cell (p := ⟨w2.heap.size, o, none⟩) (by simp)
  have hB3 : Hid (Below w.heap.size w w3) := (hB2.out.alloc (by omega) _).trans (hb3.mono (by simp; omega))
  clear hb3
  go_wp2_with fail
  refine (HH3.out _).mono ?_
  rintro e w4 ⟨rfl, hb4⟩
  have hz4 : w3.heap.size < w4.heap.size := by have h := hb4.size; simp at h; omega
  have hz4' : w2.heap.size < w4.heap.size := by omega
  have hz4'' : w.heap.size < w4.heap.size := by omega
  have hc4 := fun o => hb4.cell (p := ⟨w.heap.size, o, none⟩) (by simp; omega)
  have hf4 := fun o => hb4.frozen (p := ⟨w.heap.size, o, none⟩) (by simp; omega)
  have he4 := fun o => hb4.cell (p := ⟨w2.heap.size, o, none⟩) (by simp; omega)
  have hg4 := fun o => hb4.cell (p := ⟨w3.heap.size, o, none⟩) (by simp)
  have hB4 : Hid (Below w.heap.size w w4) := (hB3.out.alloc (by omega) _).trans (hb4.mono (by simp; omega))
  clear hb4
  go_wp2
  exact bodyPost_ret (v := recOut 0 0 ⟨#[]⟩ 3) (by simp [results, Tryz.results114, go_sem, hc1, hc2, hc3, hc4, World.cell?_alloc_lt, hz1, hz2', hz3'', hz4'']) rfl ⟨rfl, ((((((hB4.out.setCell (by simp) _).setCell (by simp) _).setCell (by simp) _).setCell (by simp) _).alloc (by simp; omega) _).alloc (by simp; omega) _)⟩
set_option maxHeartbeats 4000000 in
theorem spec_read_4 (s b d : ByteArray) (B : List UInt8) (k n a1 a2 a3 : Int) (c1 c2 c3 : Nat) (w : World) (hs : s.size ≤ 8000) (hc : (B == s.toList) = false)
    (H0 : ∀ w, Calls Tryz.prog 168 #[.string s] w fun e w' => e = .returned (textOut b 0 0) ∧ Below w.heap.size w w')
    (H1 : ∀ w, Calls Tryz.prog 169 #[.string b, .int .i64 0] w fun e w' => e = .returned (.agg #[.int .i64 k, .int .i64 a1, .int .i64 0]) ∧ Below w.heap.size w w')
    (H2 : ∀ w, Calls Tryz.prog 169 #[.string b, .int .i64 a1] w fun e w' => e = .returned (.agg #[.int .i64 n, .int .i64 a2, .int .i64 0]) ∧ Below w.heap.size w w')
    (H3 : ∀ w, Calls Tryz.prog 170 #[.string b, .int .i64 a2] w fun e w' => e = .returned (textOut d a3 0) ∧ Below w.heap.size w w')
    (H4 : ∀ w, Calls Tryz.prog 171 #[recV k n d] w fun e w' => e = .returned (.string ⟨B.toArray⟩) ∧ Below w.heap.size w w') :
    Calls Tryz.prog 114 #[.string s] w fun e w' => e = .returned (recOut 0 0 ⟨#[]⟩ 3) ∧ Below w.heap.size w w' := by
  have HH0 : Hid _ := H0
  have HH1 : Hid _ := H1
  have HH2 : Hid _ := H2
  have HH3 : Hid _ := H3
  have HH4 : Hid _ := H4
  clear H0 H1 H2 H3 H4
  go_enter Tryz.func114, Tryz.ntmps114
  go_wp2_with fail
  refine (HH0.out _).mono ?_
  rintro e w1 ⟨rfl, hb1⟩
  have hz1 : w.heap.size < w1.heap.size := by have h := hb1.size; simp at h; omega
  have hc1 := fun o => hb1.cell (p := ⟨w.heap.size, o, none⟩) (by simp)
  have hf1 := fun o => hb1.frozen (p := ⟨w.heap.size, o, none⟩) (by simp)
  have hB1 : Hid (Below w.heap.size w w1) := ((Below.refl _ _).alloc (Nat.le_refl _) _).trans (hb1.mono (by simp))
  clear hb1
  go_wp2_with fail
  refine (HH1.out _).mono ?_
  rintro e w2 ⟨rfl, hb2⟩
  have hz2 : w1.heap.size < w2.heap.size := by have h := hb2.size; simp at h; omega
  have hz2' : w.heap.size < w2.heap.size := by omega
  have hc2 := fun o => hb2.cell (p := ⟨w.heap.size, o, none⟩) (by simp; omega)
  have hf2 := fun o => hb2.frozen (p := ⟨w.heap.size, o, none⟩) (by simp; omega)
  have hd2 := fun o => hb2.cell (p := ⟨w1.heap.size, o, none⟩) (by simp)
  have hB2 : Hid (Below w.heap.size w w2) := (hB1.out.alloc (by omega) _).trans (hb2.mono (by simp; omega))
  clear hb2
  go_wp2_with fail
  refine (HH2.out _).mono ?_
  rintro e w3 ⟨rfl, hb3⟩
  have hz3 : w2.heap.size < w3.heap.size := by have h := hb3.size; simp at h; omega
  have hz3' : w1.heap.size < w3.heap.size := by omega
  have hz3'' : w.heap.size < w3.heap.size := by omega
  have hc3 := fun o => hb3.cell (p := ⟨w.heap.size, o, none⟩) (by simp; omega)
  have hf3 := fun o => hb3.frozen (p := ⟨w.heap.size, o, none⟩) (by simp; omega)
  have hd3 := fun o => hb3.cell (p := ⟨w1.heap.size, o, none⟩) (by simp; omega)
  have he3 := fun o => hb3.cell (p := ⟨w2.heap.size, o, none⟩) (by simp)
  have hB3 : Hid (Below w.heap.size w w3) := (hB2.out.alloc (by omega) _).trans (hb3.mono (by simp; omega))
  clear hb3
  go_wp2_with fail
  refine (HH3.out _).mono ?_
  rintro e w4 ⟨rfl, hb4⟩
  have hz4 : w3.heap.size < w4.heap.size := by have h := hb4.size; simp at h; omega
  have hz4' : w2.heap.size < w4.heap.size := by omega
  have hz4'' : w.heap.size < w4.heap.size := by omega
  have hc4 := fun o => hb4.cell (p := ⟨w.heap.size, o, none⟩) (by simp; omega)
  have hf4 := fun o => hb4.frozen (p := ⟨w.heap.size, o, none⟩) (by simp; omega)
  have he4 := fun o => hb4.cell (p := ⟨w2.heap.size, o, none⟩) (by simp; omega)
  have hg4 := fun o => hb4.cell (p := ⟨w3.heap.size, o, none⟩) (by simp)
  have hB4 : Hid (Below w.heap.size w w4) := (hB3.out.alloc (by omega) _).trans (hb4.mono (by simp; omega))
  clear hb4
  go_wp2_with fail
  refine (HH4.out _).mono ?_
  rintro e w5 ⟨rfl, hb5⟩
  have hz5 : w4.heap.size + 1 < w5.heap.size := by have h := hb5.size; simp at h; omega
  have hz5' : w.heap.size < w5.heap.size := by omega
  have hc5 := fun o => hb5.cell (p := ⟨w.heap.size, o, none⟩) (by simp; omega)
  have hf5 := fun o => hb5.frozen (p := ⟨w.heap.size, o, none⟩) (by simp; omega)
  have hr5 := fun o => hb5.cell (p := ⟨w4.heap.size + 1, o, none⟩) (by simp)
  have hB5 : Hid (Below w.heap.size w w5) := ((hB4.out.alloc (by omega) _).alloc (by simp; omega) _).trans (hb5.mono (by simp; omega))
  clear hb5
  go_wp2
  exact bodyPost_ret (v := recOut 0 0 ⟨#[]⟩ 3) (by simp [results, Tryz.results114, go_sem, hc1, hc2, hc3, hc4, hc5, World.cell?_alloc_lt, hz1, hz2', hz3'', hz4'', (show w.heap.size < w4.heap.size + 1 by omega)]) rfl ⟨rfl, (((hB5.out.setCell (by simp) _).setCell (by simp) _).setCell (by simp) _).setCell (by simp) _⟩
set_option maxHeartbeats 4000000 in
theorem spec_read_5 (s b d : ByteArray) (B : List UInt8) (k n a1 a2 a3 : Int) (c1 c2 c3 : Nat) (w : World) (hs : s.size ≤ 8000) (hc : (B == s.toList) = true)
    (H0 : ∀ w, Calls Tryz.prog 168 #[.string s] w fun e w' => e = .returned (textOut b 0 0) ∧ Below w.heap.size w w')
    (H1 : ∀ w, Calls Tryz.prog 169 #[.string b, .int .i64 0] w fun e w' => e = .returned (.agg #[.int .i64 k, .int .i64 a1, .int .i64 0]) ∧ Below w.heap.size w w')
    (H2 : ∀ w, Calls Tryz.prog 169 #[.string b, .int .i64 a1] w fun e w' => e = .returned (.agg #[.int .i64 n, .int .i64 a2, .int .i64 0]) ∧ Below w.heap.size w w')
    (H3 : ∀ w, Calls Tryz.prog 170 #[.string b, .int .i64 a2] w fun e w' => e = .returned (textOut d a3 0) ∧ Below w.heap.size w w')
    (H4 : ∀ w, Calls Tryz.prog 171 #[recV k n d] w fun e w' => e = .returned (.string ⟨B.toArray⟩) ∧ Below w.heap.size w w') :
    Calls Tryz.prog 114 #[.string s] w fun e w' => e = .returned (recOut k n d 0) ∧ Below w.heap.size w w' := by
  have HH0 : Hid _ := H0
  have HH1 : Hid _ := H1
  have HH2 : Hid _ := H2
  have HH3 : Hid _ := H3
  have HH4 : Hid _ := H4
  clear H0 H1 H2 H3 H4
  go_enter Tryz.func114, Tryz.ntmps114
  go_wp2_with fail
  refine (HH0.out _).mono ?_
  rintro e w1 ⟨rfl, hb1⟩
  have hz1 : w.heap.size < w1.heap.size := by have h := hb1.size; simp at h; omega
  have hc1 := fun o => hb1.cell (p := ⟨w.heap.size, o, none⟩) (by simp)
  have hf1 := fun o => hb1.frozen (p := ⟨w.heap.size, o, none⟩) (by simp)
  have hB1 : Hid (Below w.heap.size w w1) := ((Below.refl _ _).alloc (Nat.le_refl _) _).trans (hb1.mono (by simp))
  clear hb1
  go_wp2_with fail
  refine (HH1.out _).mono ?_
  rintro e w2 ⟨rfl, hb2⟩
  have hz2 : w1.heap.size < w2.heap.size := by have h := hb2.size; simp at h; omega
  have hz2' : w.heap.size < w2.heap.size := by omega
  have hc2 := fun o => hb2.cell (p := ⟨w.heap.size, o, none⟩) (by simp; omega)
  have hf2 := fun o => hb2.frozen (p := ⟨w.heap.size, o, none⟩) (by simp; omega)
  have hd2 := fun o => hb2.cell (p := ⟨w1.heap.size, o, none⟩) (by simp)
  have hB2 : Hid (Below w.heap.size w w2) := (hB1.out.alloc (by omega) _).trans (hb2.mono (by simp; omega))
  clear hb2
  go_wp2_with fail
  refine (HH2.out _).mono ?_
  rintro e w3 ⟨rfl, hb3⟩
  have hz3 : w2.heap.size < w3.heap.size := by have h := hb3.size; simp at h; omega
  have hz3' : w1.heap.size < w3.heap.size := by omega
  have hz3'' : w.heap.size < w3.heap.size := by omega
  have hc3 := fun o => hb3.cell (p := ⟨w.heap.size, o, none⟩) (by simp; omega)
  have hf3 := fun o => hb3.frozen (p := ⟨w.heap.size, o, none⟩) (by simp; omega)
  have hd3 := fun o => hb3.cell (p := ⟨w1.heap.size, o, none⟩) (by simp; omega)
  have he3 := fun o => hb3.cell (p := ⟨w2.heap.size, o, none⟩) (by simp)
  have hB3 : Hid (Below w.heap.size w w3) := (hB2.out.alloc (by omega) _).trans (hb3.mono (by simp; omega))
  clear hb3
  go_wp2_with fail
  refine (HH3.out _).mono ?_
  rintro e w4 ⟨rfl, hb4⟩
  have hz4 : w3.heap.size < w4.heap.size := by have h := hb4.size; simp at h; omega
  have hz4' : w2.heap.size < w4.heap.size := by omega
  have hz4'' : w.heap.size < w4.heap.size := by omega
  have hc4 := fun o => hb4.cell (p := ⟨w.heap.size, o, none⟩) (by simp; omega)
  have hf4 := fun o => hb4.frozen (p := ⟨w.heap.size, o, none⟩) (by simp; omega)
  have he4 := fun o => hb4.cell (p := ⟨w2.heap.size, o, none⟩) (by simp; omega)
  have hg4 := fun o => hb4.cell (p := ⟨w3.heap.size, o, none⟩) (by simp)
  have hB4 : Hid (Below w.heap.size w w4) := (hB3.out.alloc (by omega) _).trans (hb4.mono (by simp; omega))
  clear hb4
  go_wp2_with fail
  refine (HH4.out _).mono ?_
  rintro e w5 ⟨rfl, hb5⟩
  have hz5 : w4.heap.size + 1 < w5.heap.size := by have h := hb5.size; simp at h; omega
  have hz5' : w.heap.size < w5.heap.size := by omega
  have hc5 := fun o => hb5.cell (p := ⟨w.heap.size, o, none⟩) (by simp; omega)
  have hf5 := fun o => hb5.frozen (p := ⟨w.heap.size, o, none⟩) (by simp; omega)
  have hr5 := fun o => hb5.cell (p := ⟨w4.heap.size + 1, o, none⟩) (by simp)
  have hB5 : Hid (Below w.heap.size w w5) := ((hB4.out.alloc (by omega) _).alloc (by simp; omega) _).trans (hb5.mono (by simp; omega))
  clear hb5
  go_wp2
  exact bodyPost_ret (v := recOut k n d 0) (by simp [results, Tryz.results114, go_sem, hc1, hc2, hc3, hc4, hc5, World.cell?_alloc_lt, hz1, hz2', hz3'', hz4'', (show w.heap.size < w4.heap.size + 1 by omega)]) rfl ⟨rfl, (((hB5.out.setCell (by simp) _).setCell (by simp) _).setCell (by simp) _).setCell (by simp) _⟩
end Go.Proofs.YtahccighonddaaaGreatDoor
namespace Go.Proofs.YtahccighonddaaaGreatDoor
open Go.RowKit
theorem readRes_seal {s : ByteArray} (h4 : 4 ≤ s.size) (hs : s.size ≤ 8000) (hq : sealedB s = true) {r : Int × Int × ByteArray} (h : recOfRes (s.extract 0 (s.size - 4)) = r) : readRes s = if r.1 = 0 then (0, 0, ⟨#[]⟩, 3) else (r.1, r.2.1, r.2.2, 0) := by
  unfold readRes
  rw [if_neg (by omega), if_neg (by omega), if_neg (by simp [hq]), h]
theorem spec_recRead (s : ByteArray) (w : World) (hm : s.size ≤ maxLen) :
    Calls Tryz.prog 114 #[.string s] w fun e w' => e = .returned (recOutV (readRes s)) ∧ Below w.heap.size w w' := by
  by_cases h1 : 8000 < s.size
  · have e : readRes s = (0, 0, ⟨#[]⟩, 2) := by unfold readRes; rw [if_pos h1]
    rw [e]
    exact spec_read_code s 2 w (by omega) (fun w => spec_unseal_size s w hm h1)
  by_cases h2 : s.size < 4
  · have e : readRes s = (0, 0, ⟨#[]⟩, 4) := by unfold readRes; rw [if_neg h1, if_pos h2]
    rw [e]
    exact spec_read_code s 4 w (by omega) (fun w => spec_unseal_short s w h2)
  cases h3 : sealedB s
  · have e : readRes s = (0, 0, ⟨#[]⟩, 5) := by unfold readRes; rw [if_neg h1, if_neg h2, if_pos h3]
    rw [e]
    exact spec_read_code s 5 w (by omega) (fun w => spec_unseal_bad s w (by omega) (by omega) h3)
  have HU := fun w => spec_unseal_good s w (by omega) (by omega) h3
  have hres := fun r h => readRes_seal (s := s) (by omega) (by omega) h3 (r := r) h
  obtain ⟨b, hb⟩ : ∃ b, s.extract 0 (s.size - 4) = b := ⟨_, rfl⟩
  rw [hb] at HU hres
  have hbs : b.size ≤ 8000 := by rw [← hb]; simp; omega
  have hbm : b.size ≤ maxLen := by unfold maxLen; omega
  have H1 := fun w => spec_getNum b 0 w hbm
  have H2 := fun a w => spec_getNum b a w hbm
  have H3 := fun a w => spec_getText b a w hbm
  have hdm : ∀ a, (textRes b a).1.size ≤ maxLen := fun a => by
    unfold maxLen
    rcases text_cases b a with ⟨c, hc, e⟩ | ⟨N, q', e, hq, hs, hN⟩ | ⟨N, q', e, hq, hs, hN, hlt⟩ | ⟨N, q', e, hq, hs, hN, hlt⟩
    · rw [textRes_bad e hc]; exact Nat.zero_le _
    · rw [textRes_len e hN]; exact Nat.zero_le _
    · rw [textRes_short e hN hlt]; exact Nat.zero_le _
    · rw [textRes_good e hN hlt]; simp; omega
  rcases numRes_cases b 0 with ⟨c, hc, e1⟩ | ⟨k, p, e1, hp, _⟩
  · rw [hres _ (recOfRes_1 e1 hc), if_pos rfl]
    rw [e1] at H1
    exact spec_read_1 s b _ _ 0 _ 0 _ _ c _ _ w hc HU H1 (H2 0) (H3 _) (fun w => spec_recBytes 0 _ _ w (hdm _))
  rw [e1] at H1
  rcases numRes_cases b p with ⟨c, hc, e2⟩ | ⟨t, q, e2, hq, _⟩
  · rw [hres _ (recOfRes_2 e1 e2 hc), if_pos rfl]
    have H2' := H2 p
    rw [e2] at H2'
    exact spec_read_2 s b _ _ k 0 p 0 _ 0 c _ w hc HU H1 H2' (H3 _) (fun w => spec_recBytes k _ _ w (hdm _))
  have H2' := H2 p
  rw [e2] at H2'
  have H3' := H3 q
  have hdm' := hdm q
  by_cases hc : (textRes b q).2.2 = 0
  · have h3n : ∃ r : Nat, (textRes b q).2.1 = (r : Int) := by
      rcases text_cases b q with ⟨c, hc', e⟩ | ⟨N, q', e, hq, hs, hN⟩ | ⟨N, q', e, hq, hs, hN, hlt⟩ | ⟨N, q', e, hq, hs, hN, hlt⟩
      · rw [textRes_bad e hc']; exact ⟨0, rfl⟩
      · rw [textRes_len e hN]; exact ⟨0, rfl⟩
      · rw [textRes_short e hN hlt]; exact ⟨0, rfl⟩
      · rw [textRes_good e hN hlt]; exact ⟨_, rfl⟩
    obtain ⟨r, hr⟩ := h3n
    have e3 : textRes b q = ((textRes b q).1, (r : Int), 0) := Prod.ext rfl (Prod.ext hr hc)
    generalize (textRes b q).1 = d at e3 hdm'
    rw [e3] at H3'
    have hsame := rec_same hb.symm h3 (by omega) e1 e2 e3
    by_cases h : ((r : Int) = (b.size : Int) ∧ recRightB k t d = true)
    · have hk := (right_iff.1 h.2).1
      rw [hres _ (recOfRes_5 e1 e2 e3 h.1 h.2), if_neg (by show ¬ k = 0; omega)]
      exact spec_read_5 s b d (recBytes k t d) k t p q r 0 0 0 w (by omega) (by rw [beq_iff_eq, Lib.toList_data]; exact hsame.2 h) HU H1 H2' H3' (fun w => spec_recBytes k t d w hdm')
    · rw [hres _ (recOfRes_4 e1 e2 e3 h), if_pos rfl]
      exact spec_read_4 s b d (recBytes k t d) k t p q r 0 0 0 w (by omega) (by rw [beq_eq_false_iff_ne, Lib.toList_data]; exact fun e => h (hsame.1 e)) HU H1 H2' H3' (fun w => spec_recBytes k t d w hdm')
  · have e3 : textRes b q = ((textRes b q).1, (textRes b q).2.1, (textRes b q).2.2) := rfl
    rw [hres _ (recOfRes_3 e1 e2 e3 hc), if_pos rfl]
    exact spec_read_3 s b _ _ k t p q _ 0 0 _ w hc HU H1 H2' H3' (fun w => spec_recBytes k t _ w hdm')
end Go.Proofs.YtahccighonddaaaGreatDoor
namespace Go.Proofs.YtahccighonddaaaGreatDoor
open Go.RowKit
end Go.Proofs.YtahccighonddaaaGreatDoor
