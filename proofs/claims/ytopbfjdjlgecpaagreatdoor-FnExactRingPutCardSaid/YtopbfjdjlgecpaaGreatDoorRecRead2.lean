import Derived.Test.YtopbfjdjlgecpaaGreatDoorRecImpl
/- RecRead of the program. -/
namespace Go.Proofs.YtopbfjdjlgecpaaGreatDoor
open Go.RowKit

theorem recOfRes_1 {b : ByteArray} {c : Nat} (h1 : numRes b 0 = (0, 0, c)) (hc : c ≠ 0) : recOfRes b = (0, 0, ⟨#[]⟩) := by
  simp [recOfRes, h1, hc]
theorem recOfRes_2 {b : ByteArray} {k : Int} {p c : Nat} (h1 : numRes b 0 = (k, (p : Int), 0)) (h2 : numRes b p = (0, 0, c)) (hc : c ≠ 0) : recOfRes b = (0, 0, ⟨#[]⟩) := by
  simp [recOfRes, h1, h2, hc]
theorem recOfRes_3 {b d : ByteArray} {k t a : Int} {p q c : Nat} (h1 : numRes b 0 = (k, (p : Int), 0)) (h2 : numRes b p = (t, (q : Int), 0)) (h3 : textRes b q = (d, a, c)) (hc : c ≠ 0) : recOfRes b = (0, 0, ⟨#[]⟩) := by
  simp [recOfRes, h1, h2, h3, hc]
theorem recOfRes_4 {b d : ByteArray} {k t a : Int} {p q : Nat} (h1 : numRes b 0 = (k, (p : Int), 0)) (h2 : numRes b p = (t, (q : Int), 0)) (h3 : textRes b q = (d, a, 0)) (h : ¬ (a = (b.size : Int) ∧ recRightB k t d = true)) : recOfRes b = (0, 0, ⟨#[]⟩) := by
  simp only [recOfRes, h1, h2, h3]
  simp
  intro e1 e2
  exact absurd ⟨e1, e2⟩ h
theorem recOfRes_5 {b d : ByteArray} {k t a : Int} {p q : Nat} (h1 : numRes b 0 = (k, (p : Int), 0)) (h2 : numRes b p = (t, (q : Int), 0)) (h3 : textRes b q = (d, a, 0)) (h : a = (b.size : Int)) (hR : recRightB k t d = true) : recOfRes b = (k, t, d) := by
  simp [recOfRes, h1, h2, h3, h, hR]

theorem recOf_1 (b : ByteArray) (c : Nat) (w : World)
    (H : ∀ w, Calls Tryz.prog 136 #[.string b, .int .i64 0] w fun e w' => e = .returned (.tuple #[.int .i64 0, .int .i64 0, fault c]) ∧ w' = w) :
    Calls Tryz.prog 126 #[.string b] w fun e w' => e = .returned (recV 0 0 ⟨#[]⟩) ∧ Below w.heap.size w w' := by
  have HH : Hid _ := H
  clear H
  go_enter Tryz.func126, Tryz.ntmps126
  go_wp2_with (first | (go_at_call 136; refine (HH.out _).mono ?_; rintro e w' ⟨rfl, rfl⟩))
  exact bodyPost_ret (v := recV 0 0 ⟨#[]⟩) (by simp [results, Tryz.results126, go_sem]) rfl ⟨rfl, (Below.refl _ _).alloc (Nat.le_refl _) _⟩
set_option maxHeartbeats 1000000 in
theorem recOf_2 (b : ByteArray) (k : Int) (p c : Nat) (w : World)
    (H1 : ∀ w, Calls Tryz.prog 136 #[.string b, .int .i64 0] w fun e w' => e = .returned (.tuple #[.int .i64 k, .int .i64 p, .nilIface]) ∧ w' = w)
    (H2 : ∀ w, Calls Tryz.prog 136 #[.string b, .int .i64 p] w fun e w' => e = .returned (.tuple #[.int .i64 0, .int .i64 0, fault c]) ∧ w' = w) :
    Calls Tryz.prog 126 #[.string b] w fun e w' => e = .returned (recV 0 0 ⟨#[]⟩) ∧ Below w.heap.size w w' := by
  have HH1 : Hid _ := H1
  have HH2 : Hid _ := H2
  clear H1 H2
  go_enter Tryz.func126, Tryz.ntmps126
  go_wp2_with fail
  refine (HH1.out _).mono ?_
  rintro e w1 ⟨rfl, rfl⟩
  go_wp2_with fail
  refine (HH2.out _).mono ?_
  rintro e w1 ⟨rfl, rfl⟩
  go_wp2
  exact bodyPost_ret (v := recV 0 0 ⟨#[]⟩) (by simp [results, Tryz.results126, go_sem]) rfl ⟨rfl, (Below.refl _ _).alloc (Nat.le_refl _) _⟩
set_option maxHeartbeats 1000000 in
theorem recOf_3 (b : ByteArray) (k t : Int) (p q c : Nat) (w : World)
    (H1 : ∀ w, Calls Tryz.prog 136 #[.string b, .int .i64 0] w fun e w' => e = .returned (.tuple #[.int .i64 k, .int .i64 p, .nilIface]) ∧ w' = w)
    (H2 : ∀ w, Calls Tryz.prog 136 #[.string b, .int .i64 p] w fun e w' => e = .returned (.tuple #[.int .i64 t, .int .i64 q, .nilIface]) ∧ w' = w)
    (H3 : ∀ w, Calls Tryz.prog 137 #[.string b, .int .i64 q] w fun e w' => e = .returned (.tuple #[.string ⟨#[]⟩, .int .i64 0, fault c]) ∧ Below w.heap.size w w') :
    Calls Tryz.prog 126 #[.string b] w fun e w' => e = .returned (recV 0 0 ⟨#[]⟩) ∧ Below w.heap.size w w' := by
  have HH1 : Hid _ := H1
  have HH2 : Hid _ := H2
  have HH3 : Hid _ := H3
  clear H1 H2 H3
  go_enter Tryz.func126, Tryz.ntmps126
  go_wp2_with fail
  refine (HH1.out _).mono ?_
  rintro e w1 ⟨rfl, rfl⟩
  go_wp2_with fail
  refine (HH2.out _).mono ?_
  rintro e w1 ⟨rfl, rfl⟩
  go_wp2_with fail
  refine (HH3.out _).mono ?_
  rintro e w2 ⟨rfl, hb2⟩
  have hc2 := fun o => hb2.cell (p := ⟨w.heap.size, o, none⟩) (by simp)
  have hf2 := fun o => hb2.frozen (p := ⟨w.heap.size, o, none⟩) (by simp)
  have hB : Below w.heap.size w w2 := ((Below.refl _ _).alloc (Nat.le_refl _) _).trans (hb2.mono (by simp))
  go_wp2
  exact bodyPost_ret (v := recV 0 0 ⟨#[]⟩) (by simp [results, Tryz.results126, go_sem, hc2]) rfl ⟨rfl, ((hB.setCell (by simp) _).setCell (by simp) _).setCell (by simp) _⟩
set_option maxHeartbeats 1000000 in
/-- All three are read: the last test. -/
theorem recOf_4 (b d : ByteArray) (k t a : Int) (p q : Nat) (w : World) (_hb : b.size ≤ 8000) (hd : d.size ≤ maxLen) (hT : utabs w)
    (H1 : ∀ w, Calls Tryz.prog 136 #[.string b, .int .i64 0] w fun e w' => e = .returned (.tuple #[.int .i64 k, .int .i64 p, .nilIface]) ∧ w' = w)
    (H2 : ∀ w, Calls Tryz.prog 136 #[.string b, .int .i64 p] w fun e w' => e = .returned (.tuple #[.int .i64 t, .int .i64 q, .nilIface]) ∧ w' = w)
    (H3 : ∀ w, Calls Tryz.prog 137 #[.string b, .int .i64 q] w fun e w' => e = .returned (.tuple #[.string d, .int .i64 a, .nilIface]) ∧ Below w.heap.size w w')
    (hno : ¬ (a = (b.size : Int) ∧ recRightB k t d = true)) :
    Calls Tryz.prog 126 #[.string b] w fun e w' => e = .returned (recV 0 0 ⟨#[]⟩) ∧ Below w.heap.size w w' := by
  have HH1 : Hid _ := H1
  have HH2 : Hid _ := H2
  have HH3 : Hid _ := H3
  have HR : Hid _ := fun w h => impl_recRight k t d w hd h
  have HT : Hid (utabs (w.alloc (.cells #[.int .i64 0, .int .i64 0, .string ⟨#[]⟩] 28))) := utabs_alloc hT _
  clear H1 H2 H3 hT
  go_enter Tryz.func126, Tryz.ntmps126
  go_wp2_with fail
  refine (HH1.out _).mono ?_
  rintro e w1 ⟨rfl, rfl⟩
  go_wp2_with fail
  refine (HH2.out _).mono ?_
  rintro e w1 ⟨rfl, rfl⟩
  go_wp2_with fail
  refine (HH3.out _).mono ?_
  rintro e w2 ⟨rfl, hb2⟩
  have hc2 := fun o => hb2.cell (p := ⟨w.heap.size, o, none⟩) (by simp)
  have hf2 := fun o => hb2.frozen (p := ⟨w.heap.size, o, none⟩) (by simp)
  have hz2 : w.heap.size < w2.heap.size := by have h := hb2.size; simp at h; omega
  have HT2 : Hid (utabs (w2.alloc (.cells #[.int .i64 k, .int .i64 t, .string d] 28))) := utabs_alloc (utabs_below HT.out hb2) _
  have hB : Below w.heap.size w w2 := ((Below.refl _ _).alloc (Nat.le_refl _) _).trans (hb2.mono (by simp))
  by_cases ha : a = (b.size : Int)
  · have hR : recRightB k t d = false := by
      cases h : recRightB k t d
      · rfl
      · exact absurd ⟨ha, h⟩ hno
    rw [hR] at HR
    have hab : (a != (b.size : Int)) = false := by simp [ha]
    clear hno hR ha
    go_wp2_with fail
    refine (HR.out _ HT2.out).mono ?_
    rintro e w3 ⟨rfl, hb3⟩
    have hz3 : w.heap.size < w3.heap.size := by have h := hb3.size; simp at h; omega
    have hc3 := fun o => hb3.cell (p := ⟨w.heap.size, o, none⟩) (by simp; omega)
    have hf3 := fun o => hb3.frozen (p := ⟨w.heap.size, o, none⟩) (by simp; omega)
    have hB3 : Below w.heap.size w w3 := (hB.alloc (by omega) _).trans (hb3.mono (by simp; omega))
    go_wp2
    exact bodyPost_ret (v := recV 0 0 ⟨#[]⟩) (by simp [results, Tryz.results126, go_sem, hc2, hc3, World.cell?_alloc_lt, hz2]) rfl ⟨rfl, ((hB3.setCell (by simp) _).setCell (by simp) _).setCell (by simp) _⟩
  · have hab : (a != (b.size : Int)) = true := by simp [ha]
    clear hno ha
    go_wp2
    exact bodyPost_ret (v := recV 0 0 ⟨#[]⟩) (by simp [results, Tryz.results126, go_sem, hc2, World.cell?_alloc_lt, hz2]) rfl ⟨rfl, (((hB.setCell (by simp) _).setCell (by simp) _).setCell (by simp) _).alloc (by simp; omega) _⟩
set_option maxHeartbeats 1000000 in
theorem recOf_5 (b d : ByteArray) (k t : Int) (p q : Nat) (w : World) (_hb : b.size ≤ 8000) (hd : d.size ≤ maxLen) (hT : utabs w)
    (H1 : ∀ w, Calls Tryz.prog 136 #[.string b, .int .i64 0] w fun e w' => e = .returned (.tuple #[.int .i64 k, .int .i64 p, .nilIface]) ∧ w' = w)
    (H2 : ∀ w, Calls Tryz.prog 136 #[.string b, .int .i64 p] w fun e w' => e = .returned (.tuple #[.int .i64 t, .int .i64 q, .nilIface]) ∧ w' = w)
    (H3 : ∀ w, Calls Tryz.prog 137 #[.string b, .int .i64 q] w fun e w' => e = .returned (.tuple #[.string d, .int .i64 (b.size : Int), .nilIface]) ∧ Below w.heap.size w w')
    (hR : recRightB k t d = true) :
    Calls Tryz.prog 126 #[.string b] w fun e w' => e = .returned (recV k t d) ∧ Below w.heap.size w w' := by
  have HH1 : Hid _ := H1
  have HH2 : Hid _ := H2
  have HH3 : Hid _ := H3
  have HR : Hid _ := fun w h => impl_recRight k t d w hd h
  have HT : Hid (utabs (w.alloc (.cells #[.int .i64 0, .int .i64 0, .string ⟨#[]⟩] 28))) := utabs_alloc hT _
  rw [hR] at HR
  clear H1 H2 H3 hT hR
  have hab : ((b.size : Int) != (b.size : Int)) = false := by simp
  go_enter Tryz.func126, Tryz.ntmps126
  go_wp2_with fail
  refine (HH1.out _).mono ?_
  rintro e w1 ⟨rfl, rfl⟩
  go_wp2_with fail
  refine (HH2.out _).mono ?_
  rintro e w1 ⟨rfl, rfl⟩
  go_wp2_with fail
  refine (HH3.out _).mono ?_
  rintro e w2 ⟨rfl, hb2⟩
  have hc2 := fun o => hb2.cell (p := ⟨w.heap.size, o, none⟩) (by simp)
  have hf2 := fun o => hb2.frozen (p := ⟨w.heap.size, o, none⟩) (by simp)
  have hz2 : w.heap.size < w2.heap.size := by have h := hb2.size; simp at h; omega
  have HT2 : Hid (utabs (w2.alloc (.cells #[.int .i64 k, .int .i64 t, .string d] 28))) := utabs_alloc (utabs_below HT.out hb2) _
  have hB : Below w.heap.size w w2 := ((Below.refl _ _).alloc (Nat.le_refl _) _).trans (hb2.mono (by simp))
  go_wp2_with fail
  refine (HR.out _ HT2.out).mono ?_
  rintro e w3 ⟨rfl, hb3⟩
  have hz3 : w.heap.size < w3.heap.size := by have h := hb3.size; simp at h; omega
  have hc3 := fun o => hb3.cell (p := ⟨w.heap.size, o, none⟩) (by simp; omega)
  have hf3 := fun o => hb3.frozen (p := ⟨w.heap.size, o, none⟩) (by simp; omega)
  have hd3 := fun o => hb3.cell (p := ⟨w2.heap.size, o, none⟩) (by simp)
  have hB3 : Below w.heap.size w w3 := (hB.alloc (by omega) _).trans (hb3.mono (by simp; omega))
  go_wp2
  exact bodyPost_ret (v := recV k t d) (by simp [results, Tryz.results126, go_sem, hc2, hc3, World.cell?_alloc_lt, hz2]) rfl ⟨rfl, ((hB3.setCell (by simp) _).setCell (by simp) _).setCell (by simp) _⟩

theorem errOf_bad {c : Nat} (h : c ≠ 0) : errOf c = fault c := by rw [errOf, if_neg h]
/-- What is read of a text that is a body: the record, or the zero one. -/
theorem impl_recOf (b : ByteArray) (w : World) (hb : b.size ≤ 8000) (hT : utabs w) :
    Calls Tryz.prog 126 #[.string b] w fun e w' => e = .returned (recV (recOfRes b).1 (recOfRes b).2.1 (recOfRes b).2.2) ∧ Below w.heap.size w w' := by
  have hm : b.size ≤ maxLen := by unfold maxLen; omega
  have H1 := fun w => impl_readNum b 0 w hm
  rcases numRes_cases b 0 with ⟨c, hc, e⟩ | ⟨k, p, e1, hp, _⟩
  · rw [recOfRes_1 e hc]
    rw [e] at H1
    simp only [numTup, errOf_bad hc] at H1
    exact recOf_1 b c w H1
  rw [e1] at H1
  have H2 := fun w => impl_readNum b p w hm
  rcases numRes_cases b p with ⟨c, hc, e⟩ | ⟨t, q, e2, hq, _⟩
  · rw [recOfRes_2 e1 e hc]
    rw [e] at H2
    simp only [numTup, errOf_bad hc] at H2
    exact recOf_2 b k p c w H1 H2
  rw [e2] at H2
  have H3 := fun w => impl_readText b q w hm
  rcases text_cases b q with ⟨c, hc, e⟩ | ⟨N, r, e, hr, hs, hN⟩ | ⟨N, r, e, hr, hs, hN, hlt⟩ | ⟨N, r, e, hr, hs, hN, hlt⟩
  · have e3 := textRes_bad e hc
    rw [recOfRes_3 e1 e2 e3 hc]
    rw [e3] at H3
    simp only [errOf_bad hc] at H3
    exact recOf_3 b k t p q c w H1 H2 H3
  · have e3 := textRes_len e hN
    rw [recOfRes_3 e1 e2 e3 (by omega)]
    rw [e3] at H3
    exact recOf_3 b k t p q 3 w H1 H2 H3
  · have e3 := textRes_short e hN hlt
    rw [recOfRes_3 e1 e2 e3 (by omega)]
    rw [e3] at H3
    exact recOf_3 b k t p q 4 w H1 H2 H3
  · have e3 := textRes_good e hN hlt
    have hd : (b.extract r (r + N)).size ≤ maxLen := by unfold maxLen; simp; omega
    rw [e3] at H3
    by_cases h : ((r + N : Nat) : Int) = (b.size : Int) ∧ recRightB k t (b.extract r (r + N)) = true
    · rw [recOfRes_5 e1 e2 e3 h.1 h.2]
      rw [h.1] at H3
      exact recOf_5 b _ k t p q w hb hd hT H1 H2 H3 h.2
    · rw [recOfRes_4 e1 e2 e3 h]
      exact recOf_4 b _ k t _ p q w hb hd hT H1 H2 H3 h

abbrev recOut (k t : Int) (d : ByteArray) (c : Int) : Value := .agg #[.int .i64 k, .int .i64 t, .string d, .int .i64 c]
set_option maxHeartbeats 1000000 in
theorem recRead_code (s : ByteArray) (c : Nat) (w : World) (hc : c ≠ 0)
    (H : ∀ w, Calls Tryz.prog 125 #[.string s] w fun e w' => e = .returned (textOut ⟨#[]⟩ 0 c) ∧ Below w.heap.size w w') :
    Calls Tryz.prog 102 #[.string s] w fun e w' => e = .returned (recOut 0 0 ⟨#[]⟩ c) ∧ Below w.heap.size w w' := by
  have HH : Hid _ := H
  have hcb : ((c : Int) != 0) = true := by rw [bne_iff_ne]; omega
  clear H hc
  go_enter Tryz.func102, Tryz.ntmps102
  go_wp2_with fail
  refine (HH.out _).mono ?_
  rintro e w1 ⟨rfl, hb1⟩
  have hz1 : w.heap.size < w1.heap.size := by have h := hb1.size; simp at h; omega
  have hc1 := fun o => hb1.cell (p := ⟨w.heap.size, o, none⟩) (by simp)
  have hf1 := fun o => hb1.frozen (p := ⟨w.heap.size, o, none⟩) (by simp)
  have hB : Below w.heap.size w w1 := ((Below.refl _ _).alloc (Nat.le_refl _) _).trans (hb1.mono (by simp))
  go_wp2
  exact bodyPost_ret (v := recOut 0 0 ⟨#[]⟩ c) (by simp [results, Tryz.results102, go_sem, hc1, World.cell?_alloc_lt, hz1]) rfl ⟨rfl, (((((hB.setCell (by simp) _).setCell (by simp) _).setCell (by simp) _).setCell (by simp) _).alloc (by simp; omega) _)⟩
end Go.Proofs.YtopbfjdjlgecpaaGreatDoor
/- RecRead of the program, a sealed text. -/
namespace Go.Proofs.YtopbfjdjlgecpaaGreatDoor
open Go.RowKit

set_option maxHeartbeats 1000000 in
theorem recRead_zero (s b : ByteArray) (w : World) (hT : utabs w)
    (H : ∀ w, Calls Tryz.prog 125 #[.string s] w fun e w' => e = .returned (textOut b 0 0) ∧ Below w.heap.size w w')
    (H2 : ∀ w, utabs w → Calls Tryz.prog 126 #[.string b] w fun e w' => e = .returned (recV 0 0 ⟨#[]⟩) ∧ Below w.heap.size w w') :
    Calls Tryz.prog 102 #[.string s] w fun e w' => e = .returned (recOut 0 0 ⟨#[]⟩ 3) ∧ Below w.heap.size w w' := by
  have HH : Hid _ := H
  have HH2 : Hid _ := H2
  have HT : Hid (utabs w) := hT
  clear H H2 hT
  go_enter Tryz.func102, Tryz.ntmps102
  go_wp2_with fail
  refine (HH.out _).mono ?_
  rintro e w1 ⟨rfl, hb1⟩
  have hz1 : w.heap.size < w1.heap.size := by have h := hb1.size; simp at h; omega
  have hc1 := fun o => hb1.cell (p := ⟨w.heap.size, o, none⟩) (by simp)
  have hf1 := fun o => hb1.frozen (p := ⟨w.heap.size, o, none⟩) (by simp)
  have hB : Below w.heap.size w w1 := ((Below.refl _ _).alloc (Nat.le_refl _) _).trans (hb1.mono (by simp))
  have HT1 : Hid (utabs (w1.alloc (.cells #[.string b, .int .i64 0, .int .i64 0] 130))) := utabs_alloc (utabs_below HT.out hB) _
  go_wp2_with fail
  refine (HH2.out _ HT1.out).mono ?_
  rintro e w2 ⟨rfl, hb2⟩
  have hz2 : w1.heap.size < w2.heap.size := by have h := hb2.size; simp at h; omega
  have hc2 := fun o => hb2.cell (p := ⟨w.heap.size, o, none⟩) (by simp; omega)
  have hf2 := fun o => hb2.frozen (p := ⟨w.heap.size, o, none⟩) (by simp; omega)
  have hz3 : w.heap.size < w2.heap.size := by omega
  have hB2 : Below w.heap.size w w2 := (hB.alloc (by omega) _).trans (hb2.mono (by simp; omega))
  go_wp2
  exact bodyPost_ret (v := recOut 0 0 ⟨#[]⟩ 3) (by simp [results, Tryz.results102, go_sem, hc1, hc2, World.cell?_alloc_lt, hz1, hz3]) rfl ⟨rfl, (((((hB2.setCell (by simp) _).setCell (by simp) _).setCell (by simp) _).setCell (by simp) _).alloc (by simp; omega) _)⟩
set_option maxHeartbeats 1000000 in
theorem recRead_some (s b d : ByteArray) (k t : Int) (w : World) (hT : utabs w) (hk : k ≠ 0)
    (H : ∀ w, Calls Tryz.prog 125 #[.string s] w fun e w' => e = .returned (textOut b 0 0) ∧ Below w.heap.size w w')
    (H2 : ∀ w, utabs w → Calls Tryz.prog 126 #[.string b] w fun e w' => e = .returned (recV k t d) ∧ Below w.heap.size w w') :
    Calls Tryz.prog 102 #[.string s] w fun e w' => e = .returned (recOut k t d 0) ∧ Below w.heap.size w w' := by
  have HH : Hid _ := H
  have HH2 : Hid _ := H2
  have HT : Hid (utabs w) := hT
  have hkb : (k == 0) = false := by rw [beq_eq_false_iff_ne]; exact hk
  clear H H2 hT hk
  go_enter Tryz.func102, Tryz.ntmps102
  go_wp2_with fail
  refine (HH.out _).mono ?_
  rintro e w1 ⟨rfl, hb1⟩
  have hz1 : w.heap.size < w1.heap.size := by have h := hb1.size; simp at h; omega
  have hc1 := fun o => hb1.cell (p := ⟨w.heap.size, o, none⟩) (by simp)
  have hf1 := fun o => hb1.frozen (p := ⟨w.heap.size, o, none⟩) (by simp)
  have hB : Below w.heap.size w w1 := ((Below.refl _ _).alloc (Nat.le_refl _) _).trans (hb1.mono (by simp))
  have HT1 : Hid (utabs (w1.alloc (.cells #[.string b, .int .i64 0, .int .i64 0] 130))) := utabs_alloc (utabs_below HT.out hB) _
  go_wp2_with fail
  refine (HH2.out _ HT1.out).mono ?_
  rintro e w2 ⟨rfl, hb2⟩
  have hz2 : w1.heap.size < w2.heap.size := by have h := hb2.size; simp at h; omega
  have hc2 := fun o => hb2.cell (p := ⟨w.heap.size, o, none⟩) (by simp; omega)
  have hf2 := fun o => hb2.frozen (p := ⟨w.heap.size, o, none⟩) (by simp; omega)
  have hz3 : w.heap.size < w2.heap.size := by omega
  have hB2 : Below w.heap.size w w2 := (hB.alloc (by omega) _).trans (hb2.mono (by simp; omega))
  go_wp2
  exact bodyPost_ret (v := recOut k t d 0) (by simp [results, Tryz.results102, go_sem, hc1, hc2, World.cell?_alloc_lt, hz1, hz3]) rfl ⟨rfl, (((((hB2.setCell (by simp) _).setCell (by simp) _).setCell (by simp) _).setCell (by simp) _).alloc (by simp; omega) _)⟩

/-- What RecRead answers. -/
def readRes (s : ByteArray) : Int × Int × ByteArray × Nat :=
  if 8000 < s.size then (0, 0, ⟨#[]⟩, 2) else if s.size < 4 then (0, 0, ⟨#[]⟩, 4) else if sealedB s = false then (0, 0, ⟨#[]⟩, 5)
    else let r := recOfRes (s.extract 0 (s.size - 4))
      if r.1 = 0 then (0, 0, ⟨#[]⟩, 3) else (r.1, r.2.1, r.2.2, 0)
abbrev recOutV (r : Int × Int × ByteArray × Nat) : Value := recOut r.1 r.2.1 r.2.2.1 (r.2.2.2 : Int)
theorem recOfRes_cases (b : ByteArray) : recOfRes b = (0, 0, ⟨#[]⟩) ∨ (∃ k t d, recOfRes b = (k, t, d) ∧ recRightB k t d = true ∧ k ≠ 0) := by
  by_cases h : recOfRes b = (0, 0, ⟨#[]⟩)
  · exact .inl h
  · right
    unfold recOfRes at h ⊢
    simp only at h ⊢
    split at h
    · exact absurd rfl h
    · rename_i h1
      rw [if_neg h1]
      split at h
      · exact absurd rfl h
      · rename_i h2
        rw [if_neg h2]
        split at h
        · exact absurd rfl h
        · rename_i h3
          rw [if_neg h3]
          split at h
          · rename_i h4
            rw [if_pos h4]
            refine ⟨_, _, _, rfl, h4.2, ?_⟩
            have := (right_iff.1 h4.2).1
            omega
          · exact absurd rfl h
theorem impl_recRead (s : ByteArray) (w : World) (hm : s.size ≤ maxLen) (hT : utabs w) :
    Calls Tryz.prog 102 #[.string s] w fun e w' => e = .returned (recOutV (readRes s)) ∧ Below w.heap.size w w' := by
  unfold readRes
  by_cases h1 : 8000 < s.size
  · rw [if_pos h1]
    exact recRead_code s 2 w (by omega) (fun w => impl_unseal_size s w hm h1)
  rw [if_neg h1]
  by_cases h2 : s.size < 4
  · rw [if_pos h2]
    exact recRead_code s 4 w (by omega) (fun w => impl_unseal_short s w h2)
  rw [if_neg h2]
  cases h3 : sealedB s
  · rw [if_pos rfl]
    exact recRead_code s 5 w (by omega) (fun w => impl_unseal_bad s w (by omega) (by omega) h3)
  · rw [if_neg (by simp)]
    have HU := fun w => impl_unseal_good s w (by omega) (by omega) h3
    have hb : (s.extract 0 (s.size - 4)).size ≤ 8000 := by simp; omega
    have HR := fun w h => impl_recOf (s.extract 0 (s.size - 4)) w hb h
    generalize s.extract 0 (s.size - 4) = b at HU HR
    rcases recOfRes_cases b with e | ⟨k, t, d, e, _, hk⟩
    · rw [e] at HR ⊢
      exact recRead_zero s b w hT HU HR
    · rw [e] at HR ⊢
      simp only [if_neg hk]
      exact recRead_some s b d k t w hT hk HU HR
end Go.Proofs.YtopbfjdjlgecpaaGreatDoor
