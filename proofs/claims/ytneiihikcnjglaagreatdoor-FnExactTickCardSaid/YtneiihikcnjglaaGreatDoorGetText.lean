/- Contracts for GetText. -/
import Derived.Test.YtneiihikcnjglaaGreatDoorGetNum
import Derived.Test.YtneiihikcnjglaaGreatDoorCopy
import Derived.Test.YtneiihikcnjglaaGreatDoorTextOut
import Derived.RegionTactic
import Derived.BigRegion
namespace Go.Proofs.YtneiihikcnjglaaGreatDoor
open Go.RowKit

theorem scan_len : ∀ (l : List UInt8) (k U : Nat), U < 128 ^ k → k ≤ 9 → (scan l k U).2.1 ≤ l.length + k := fun l k U h hk => (scan_lt l k U h hk).2.1
theorem numRes_cases (s : ByteArray) (a : Int) : (∃ c : Nat, c ≠ 0 ∧ numRes s a = (0, 0, c)) ∨ (∃ (N : Int) (q : Nat), numRes s a = (N, (q : Int), 0) ∧ q ≤ s.size ∧ s.size ≤ 8000) := by
  unfold numRes
  by_cases h : 8000 < s.size
  · exact .inl ⟨2, by omega, by rw [if_pos h]⟩
  rw [if_neg h]
  by_cases ha : a < 0
  · exact .inl ⟨1, by omega, by rw [if_pos ha]⟩
  rw [if_neg ha]
  have hl := scan_len (s.data.toList.drop a.toNat) 0 0 (by decide) (by omega)
  by_cases hp : a.toNat < s.size
  · simp only []
    by_cases hc : (scan (s.data.toList.drop a.toNat) 0 0).2.2 = 0
    · rw [if_pos hc]
      refine .inr ⟨_, _, rfl, ?_, by omega⟩
      simp at hl
      omega
    · rw [if_neg hc]
      exact .inl ⟨_, hc, rfl⟩
  · rw [List.drop_of_length_le (by simp; omega)]
    exact .inl ⟨4, by omega, rfl⟩

theorem readText_bad (s : ByteArray) (a : Int) (c : Nat) (w : World)
    (H : ∀ w, Calls Tryz.prog 290 #[.string s, .int .i64 a] w fun e w' => e = .returned (.tuple #[.int .i64 0, .int .i64 0, fault c]) ∧ w' = w) :
    Calls Tryz.prog 291 #[.string s, .int .i64 a] w fun e w' => e = .returned (.tuple #[.string ⟨#[]⟩, .int .i64 0, fault c]) ∧ Below w.heap.size w w' := by
  have HH : Hid _ := H
  clear H
  go_enter Tryz.func291, Tryz.ntmps291
  go_wp2_with (first | (go_at_call 290; refine (HH.out _).mono ?_; rintro e w' ⟨rfl, rfl⟩))
  go_ret3
  exact ⟨rfl, Below.refl _ _⟩
theorem readText_len (s : ByteArray) (a : Int) (N : Int) (q : Nat) (w : World) (hN : N < 0 ∨ 8000 < N)
    (H : ∀ w, Calls Tryz.prog 290 #[.string s, .int .i64 a] w fun e w' => e = .returned (.tuple #[.int .i64 N, .int .i64 q, .nilIface]) ∧ w' = w) :
    Calls Tryz.prog 291 #[.string s, .int .i64 a] w fun e w' => e = .returned (.tuple #[.string ⟨#[]⟩, .int .i64 0, fault 3]) ∧ Below w.heap.size w w' := by
  have HH : Hid _ := H
  clear H
  by_cases h0 : N < 0
  · go_enter Tryz.func291, Tryz.ntmps291
    go_wp2_with (first | (go_at_call 290; refine (HH.out _).mono ?_; rintro e w' ⟨rfl, rfl⟩))
    go_ret3
    exact ⟨rfl, Below.refl _ _⟩
  · have h1 : 8000 < N := by omega
    clear hN
    go_enter Tryz.func291, Tryz.ntmps291
    go_wp2_with (first | (go_at_call 290; refine (HH.out _).mono ?_; rintro e w' ⟨rfl, rfl⟩))
    go_ret3
    exact ⟨rfl, Below.refl _ _⟩
theorem readText_short (s : ByteArray) (a : Int) (N q : Nat) (w : World) (hN : N ≤ 8000) (hs : s.size ≤ 8000) (hq : q ≤ s.size) (hlt : s.size < q + N)
    (H : ∀ w, Calls Tryz.prog 290 #[.string s, .int .i64 a] w fun e w' => e = .returned (.tuple #[.int .i64 N, .int .i64 q, .nilIface]) ∧ w' = w) :
    Calls Tryz.prog 291 #[.string s, .int .i64 a] w fun e w' => e = .returned (.tuple #[.string ⟨#[]⟩, .int .i64 0, fault 4]) ∧ Below w.heap.size w w' := by
  have HH : Hid _ := H
  clear H
  go_enter Tryz.func291, Tryz.ntmps291
  go_wp2_with (first | (go_at_call 290; refine (HH.out _).mono ?_; rintro e w' ⟨rfl, rfl⟩))
  go_ret3
  exact ⟨rfl, Below.refl _ _⟩
theorem readText_good (s : ByteArray) (a : Int) (N q : Nat) (w : World) (hN : N ≤ 8000) (hs : s.size ≤ 8000) (_hq : q ≤ s.size) (hlt : q + N ≤ s.size)
    (H : ∀ w, Calls Tryz.prog 290 #[.string s, .int .i64 a] w fun e w' => e = .returned (.tuple #[.int .i64 N, .int .i64 q, .nilIface]) ∧ w' = w) :
    Calls Tryz.prog 291 #[.string s, .int .i64 a] w fun e w' => e = .returned (.tuple #[.string (s.extract q (q + N)), .int .i64 ((q + N : Nat) : Int), .nilIface]) ∧ Below w.heap.size w w' := by
  have HH : Hid _ := H
  clear H
  go_enter Tryz.func291, Tryz.ntmps291
  go_wp2_with fail
  refine (HH.out _).mono ?_
  rintro e w' ⟨rfl, rfl⟩
  go_wp2_with fail
  refine (impl_copyText _ _ (by simp; omega)).mono ?_
  rintro e w2 ⟨rfl, hb⟩
  go_wp2
  go_ret3
  exact ⟨rfl, hb⟩

/-- What GetText answers. -/
def textRes (s : ByteArray) (a : Int) : ByteArray × Int × Nat :=
  let r := numRes s a
  if r.2.2 ≠ 0 then (⟨#[]⟩, 0, r.2.2) else if r.1 < 0 ∨ 8000 < r.1 then (⟨#[]⟩, 0, 3) else if (s.size : Int) < r.2.1 + r.1 then (⟨#[]⟩, 0, 4)
    else (s.extract r.2.1.toNat (r.2.1.toNat + r.1.toNat), ((r.2.1.toNat + r.1.toNat : Nat) : Int), 0)
theorem textRes_bad {s : ByteArray} {a : Int} {c : Nat} (h : numRes s a = (0, 0, c)) (hc : c ≠ 0) : textRes s a = (⟨#[]⟩, 0, c) := by
  simp [textRes, h, hc]
theorem textRes_len {s : ByteArray} {a N : Int} {q : Nat} (h : numRes s a = (N, (q : Int), 0)) (hN : N < 0 ∨ 8000 < N) : textRes s a = (⟨#[]⟩, 0, 3) := by
  simp [textRes, h, hN]
theorem textRes_short {s : ByteArray} {a : Int} {N q : Nat} (h : numRes s a = ((N : Int), (q : Int), 0)) (hN : N ≤ 8000) (hlt : s.size < q + N) : textRes s a = (⟨#[]⟩, 0, 4) := by
  unfold textRes
  simp only [h]
  rw [if_neg (by simp), if_neg (by omega), if_pos (by omega)]
theorem textRes_good {s : ByteArray} {a : Int} {N q : Nat} (h : numRes s a = ((N : Int), (q : Int), 0)) (hN : N ≤ 8000) (hlt : q + N ≤ s.size) : textRes s a = (s.extract q (q + N), ((q + N : Nat) : Int), 0) := by
  unfold textRes
  simp only [h]
  rw [if_neg (by simp), if_neg (by omega), if_neg (by omega), Int.toNat_natCast, Int.toNat_natCast]
/-- The four ways of reading a text. -/
theorem text_cases (s : ByteArray) (a : Int) : (∃ c : Nat, c ≠ 0 ∧ numRes s a = (0, 0, c)) ∨ (∃ (N : Int) (q : Nat), numRes s a = (N, (q : Int), 0) ∧ q ≤ s.size ∧ s.size ≤ 8000 ∧ (N < 0 ∨ 8000 < N)) ∨
    (∃ N q : Nat, numRes s a = ((N : Int), (q : Int), 0) ∧ q ≤ s.size ∧ s.size ≤ 8000 ∧ N ≤ 8000 ∧ s.size < q + N) ∨ (∃ N q : Nat, numRes s a = ((N : Int), (q : Int), 0) ∧ q ≤ s.size ∧ s.size ≤ 8000 ∧ N ≤ 8000 ∧ q + N ≤ s.size) := by
  rcases numRes_cases s a with h | ⟨N, q, h, hq, hs⟩
  · exact .inl h
  · by_cases hN : N < 0 ∨ 8000 < N
    · exact .inr (.inl ⟨N, q, h, hq, hs, hN⟩)
    · obtain ⟨n, rfl⟩ := Int.eq_ofNat_of_zero_le (show 0 ≤ N by omega)
      by_cases hlt : s.size < q + n
      · exact .inr (.inr (.inl ⟨n, q, h, hq, hs, by omega, hlt⟩))
      · exact .inr (.inr (.inr ⟨n, q, h, hq, hs, by omega, by omega⟩))

theorem impl_readText (s : ByteArray) (a : Int) (w : World) (hm : s.size ≤ maxLen) :
    Calls Tryz.prog 291 #[.string s, .int .i64 a] w fun e w' => e = .returned (.tuple #[.string (textRes s a).1, .int .i64 (textRes s a).2.1, errOf (textRes s a).2.2]) ∧ Below w.heap.size w w' := by
  have H := fun w => impl_readNum s a w hm
  rcases text_cases s a with ⟨c, hc, e⟩ | ⟨N, q, e, hq, hs, hN⟩ | ⟨N, q, e, hq, hs, hN, hlt⟩ | ⟨N, q, e, hq, hs, hN, hlt⟩
  · rw [textRes_bad e hc]
    rw [e] at H
    have e2 : errOf c = fault c := by rw [errOf, if_neg hc]
    simp only [numTup, e2] at H ⊢
    exact readText_bad s a c w H
  · rw [textRes_len e hN]
    rw [e] at H
    exact readText_len s a N q w hN H
  · rw [textRes_short e hN hlt]
    rw [e] at H
    exact readText_short s a N q w hN hs hq hlt H
  · rw [textRes_good e hN hlt]
    rw [e] at H
    exact readText_good s a N q w hN hs hq hlt H

set_option maxHeartbeats 1000000 in
theorem spec_getText_bad (s : ByteArray) (a : Int) (c : Nat) (w : World) (hc : c ≠ 0)
    (H : ∀ w, Calls Tryz.prog 205 #[.string s, .int .i64 a] w fun e w' => e = .returned (.agg #[.int .i64 0, .int .i64 0, .int .i64 c]) ∧ Below w.heap.size w w') :
    Calls Tryz.prog 206 #[.string s, .int .i64 a] w fun e w' => e = .returned (textOut ⟨#[]⟩ 0 c) ∧ Below w.heap.size w w' := by
  have HH : Hid _ := H
  clear H
  have hcb : ((c : Int) != 0) = true := by rw [bne_iff_ne]; omega
  clear hc
  go_enter Tryz.func206, Tryz.ntmps206
  go_wp2_with fail
  refine (HH.out _).mono ?_
  rintro e w1 ⟨rfl, hb1⟩
  have hz1 : w.heap.size < w1.heap.size := by have := hb1.size; simp at this; omega
  have hc1 := fun o => hb1.cell (p := ⟨w.heap.size, o, none⟩) (by simp)
  have hf1 := fun o => hb1.frozen (p := ⟨w.heap.size, o, none⟩) (by simp)
  have hB : Below w.heap.size w w1 := ((Below.refl _ _).alloc (Nat.le_refl _) _).trans (hb1.mono (by simp))
  go_wp2
  exact bodyPost_ret (v := textOut ⟨#[]⟩ 0 c) (by simp [results, Tryz.results206, go_sem, hc1, World.cell?_alloc_lt, hz1]) rfl ⟨rfl, (((hB.setCell (by simp) _).setCell (by simp) _).setCell (by simp) _).alloc (by simp; omega) _⟩
set_option maxHeartbeats 1000000 in
theorem spec_getText_neg (s : ByteArray) (a : Int) (N : Int) (q : Nat) (w : World) (hN : N < 0)
    (H : ∀ w, Calls Tryz.prog 205 #[.string s, .int .i64 a] w fun e w' => e = .returned (.agg #[.int .i64 N, .int .i64 q, .int .i64 0]) ∧ Below w.heap.size w w') :
    Calls Tryz.prog 206 #[.string s, .int .i64 a] w fun e w' => e = .returned (textOut ⟨#[]⟩ 0 3) ∧ Below w.heap.size w w' := by
  have HH : Hid _ := H
  clear H
  go_enter Tryz.func206, Tryz.ntmps206
  go_wp2_with fail
  refine (HH.out _).mono ?_
  rintro e w1 ⟨rfl, hb1⟩
  have hz1 : w.heap.size < w1.heap.size := by have := hb1.size; simp at this; omega
  have hc1 := fun o => hb1.cell (p := ⟨w.heap.size, o, none⟩) (by simp)
  have hf1 := fun o => hb1.frozen (p := ⟨w.heap.size, o, none⟩) (by simp)
  have hB : Below w.heap.size w w1 := ((Below.refl _ _).alloc (Nat.le_refl _) _).trans (hb1.mono (by simp))
  go_wp2
  exact bodyPost_ret (v := textOut ⟨#[]⟩ 0 3) (by simp [results, Tryz.results206, go_sem, hc1, World.cell?_alloc_lt, hz1]) rfl ⟨rfl, (((hB.setCell (by simp) _).setCell (by simp) _).setCell (by simp) _).alloc (by simp; omega) _⟩
set_option maxHeartbeats 1000000 in
theorem spec_getText_great (s : ByteArray) (a : Int) (N : Int) (q : Nat) (w : World) (hN : 8000 < N)
    (H : ∀ w, Calls Tryz.prog 205 #[.string s, .int .i64 a] w fun e w' => e = .returned (.agg #[.int .i64 N, .int .i64 q, .int .i64 0]) ∧ Below w.heap.size w w') :
    Calls Tryz.prog 206 #[.string s, .int .i64 a] w fun e w' => e = .returned (textOut ⟨#[]⟩ 0 3) ∧ Below w.heap.size w w' := by
  have HH : Hid _ := H
  clear H
  go_enter Tryz.func206, Tryz.ntmps206
  go_wp2_with fail
  refine (HH.out _).mono ?_
  rintro e w1 ⟨rfl, hb1⟩
  have hz1 : w.heap.size < w1.heap.size := by have := hb1.size; simp at this; omega
  have hc1 := fun o => hb1.cell (p := ⟨w.heap.size, o, none⟩) (by simp)
  have hf1 := fun o => hb1.frozen (p := ⟨w.heap.size, o, none⟩) (by simp)
  have hB : Below w.heap.size w w1 := ((Below.refl _ _).alloc (Nat.le_refl _) _).trans (hb1.mono (by simp))
  go_wp2
  exact bodyPost_ret (v := textOut ⟨#[]⟩ 0 3) (by simp [results, Tryz.results206, go_sem, hc1, World.cell?_alloc_lt, hz1]) rfl ⟨rfl, (((hB.setCell (by simp) _).setCell (by simp) _).setCell (by simp) _).alloc (by simp; omega) _⟩
set_option maxHeartbeats 1000000 in
theorem spec_getText_short (s : ByteArray) (a : Int) (N q : Nat) (w : World) (hN : N ≤ 8000) (hs : s.size ≤ 8000) (hlt : s.size < q + N)
    (H : ∀ w, Calls Tryz.prog 205 #[.string s, .int .i64 a] w fun e w' => e = .returned (.agg #[.int .i64 N, .int .i64 q, .int .i64 0]) ∧ Below w.heap.size w w') :
    Calls Tryz.prog 206 #[.string s, .int .i64 a] w fun e w' => e = .returned (textOut ⟨#[]⟩ 0 4) ∧ Below w.heap.size w w' := by
  have HH : Hid _ := H
  clear H
  go_enter Tryz.func206, Tryz.ntmps206
  go_wp2_with fail
  refine (HH.out _).mono ?_
  rintro e w1 ⟨rfl, hb1⟩
  have hz1 : w.heap.size < w1.heap.size := by have := hb1.size; simp at this; omega
  have hc1 := fun o => hb1.cell (p := ⟨w.heap.size, o, none⟩) (by simp)
  have hf1 := fun o => hb1.frozen (p := ⟨w.heap.size, o, none⟩) (by simp)
  have hB : Below w.heap.size w w1 := ((Below.refl _ _).alloc (Nat.le_refl _) _).trans (hb1.mono (by simp))
  go_wp2
  exact bodyPost_ret (v := textOut ⟨#[]⟩ 0 4) (by simp [results, Tryz.results206, go_sem, hc1, World.cell?_alloc_lt, hz1]) rfl ⟨rfl, (((hB.setCell (by simp) _).setCell (by simp) _).setCell (by simp) _).alloc (by simp; omega) _⟩
set_option maxHeartbeats 1000000 in
theorem spec_getText_good (s : ByteArray) (a : Int) (N q : Nat) (w : World) (hN : N ≤ 8000) (hs : s.size ≤ 8000) (hlt : q + N ≤ s.size)
    (H : ∀ w, Calls Tryz.prog 205 #[.string s, .int .i64 a] w fun e w' => e = .returned (.agg #[.int .i64 N, .int .i64 q, .int .i64 0]) ∧ Below w.heap.size w w') :
    Calls Tryz.prog 206 #[.string s, .int .i64 a] w fun e w' => e = .returned (textOut (s.extract q (q + N)) ((q + N : Nat) : Int) 0) ∧ Below w.heap.size w w' := by
  have HH : Hid _ := H
  clear H
  have hwr : IntKind.i64.wrap ((q : Int) + (N : Int)) = (q : Int) + (N : Int) := by
    simp [IntKind.wrap, IntKind.bits, IntKind.signed]; omega
  have hi1 : (q : Int) ≤ (q : Int) + (N : Int) := by omega
  have hi2 : (q : Int) + (N : Int) ≤ (s.size : Int) := by omega
  have hi3 : (0 : Int) ≤ (q : Int) + (N : Int) := by omega
  go_enter Tryz.func206, Tryz.ntmps206
  go_wp2_with fail
  refine (HH.out _).mono ?_
  rintro e w1 ⟨rfl, hb1⟩
  have hz1 : w.heap.size < w1.heap.size := by have := hb1.size; simp at this; omega
  have hc1 := fun o => hb1.cell (p := ⟨w.heap.size, o, none⟩) (by simp)
  have hf1 := fun o => hb1.frozen (p := ⟨w.heap.size, o, none⟩) (by simp)
  have hB : Below w.heap.size w w1 := ((Below.refl _ _).alloc (Nat.le_refl _) _).trans (hb1.mono (by simp))
  go_wp2
  go_region
  go_wp2
  exact bodyPost_ret (v := textOut (s.extract q (q + N)) ((q : Int) + (N : Int)) 0) (by simp [results, Tryz.results206, go_sem, hc1, World.cell?_alloc_lt, hz1]) rfl ⟨rfl, ((((hB.setCell (by simp) _).setCell (by simp) _).setCell (by simp) _).alloc (by simp; omega) _).drew⟩

theorem spec_getText (s : ByteArray) (a : Int) (w : World) (hm : s.size ≤ maxLen) :
    Calls Tryz.prog 206 #[.string s, .int .i64 a] w fun e w' => e = .returned (textOut (textRes s a).1 (textRes s a).2.1 ((textRes s a).2.2 : Int)) ∧ Below w.heap.size w w' := by
  have H := fun w => spec_getNum s a w hm
  rcases text_cases s a with ⟨c, hc, e⟩ | ⟨N, q, e, hq, hs, hN⟩ | ⟨N, q, e, hq, hs, hN, hlt⟩ | ⟨N, q, e, hq, hs, hN, hlt⟩
  · rw [textRes_bad e hc]
    rw [e] at H
    exact spec_getText_bad s a c w hc H
  · rw [textRes_len e hN]
    rw [e] at H
    rcases hN with hN | hN
    · exact spec_getText_neg s a N q w hN H
    · exact spec_getText_great s a N q w hN H
  · rw [textRes_short e hN hlt]
    rw [e] at H
    exact spec_getText_short s a N q w hN hs hlt H
  · rw [textRes_good e hN hlt]
    rw [e] at H
    exact spec_getText_good s a N q w hN hs hlt H

end Go.Proofs.YtneiihikcnjglaaGreatDoor
