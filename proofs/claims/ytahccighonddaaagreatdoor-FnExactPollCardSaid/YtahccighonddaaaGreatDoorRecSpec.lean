import Derived.Test.YtahccighonddaaaGreatDoorGetNum
import Derived.Test.YtahccighonddaaaGreatDoorSeal
import Derived.Test.YtahccighonddaaaGreatDoorTextOut
import Derived.RegionTactic
import Derived.BigRegion
import Derived.Test.YtahccighonddaaaGreatDoorText
import Derived.Lib.Strings
import Derived.Deep.RegionWith
namespace Go.Proofs.YtahccighonddaaaGreatDoor
open Go.RowKit
theorem scan_len : ∀ (l : List UInt8) (k U : Nat),U < 128 ^ k → k ≤ 9 → (scan l k U).2.1 ≤ l.length + k := fun l k U h hk => (scan_lt l k U h hk).2.1
theorem numRes_cases (s : ByteArray) (a : Int) : (∃ c : Nat,c ≠ 0 ∧ numRes s a = (0,0,c)) ∨ (∃ (N : Int) (q : Nat),numRes s a = (N,(q : Int),0) ∧ q ≤ s.size ∧ s.size ≤ 8000) := by
  unfold numRes
  by_cases h : 8000 < s.size
  · exact .inl ⟨2,by omega,by rw [if_pos h]⟩
  rw [if_neg h]
  by_cases ha : a < 0
  · exact .inl ⟨1,by omega,by rw [if_pos ha]⟩
  rw [if_neg ha]
  have hl := scan_len (s.data.toList.drop a.toNat) 0 0 (by decide) (by omega)
  by_cases hp : a.toNat < s.size
  · simp only []
    by_cases hc : (scan (s.data.toList.drop a.toNat) 0 0).2.2 = 0
    · rw [if_pos hc]
      refine .inr ⟨_,_,rfl,?_,by omega⟩
      simp at hl
      omega
    · rw [if_neg hc]
      exact .inl ⟨_,hc,rfl⟩
  · rw [List.drop_of_length_le (by simp; omega)]
    exact .inl ⟨4,by omega,rfl⟩
theorem readText_bad (s : ByteArray) (a : Int) (c : Nat) (w : World)
    (H : ∀ w,Calls Tryz.prog 256 #[.string s,.int .i64 a] w fun e w' => e = .returned (.tuple #[.int .i64 0,.int .i64 0,fault c]) ∧ w' = w) :
    Calls Tryz.prog 257 #[.string s,.int .i64 a] w fun e w' => e = .returned (.tuple #[.string ⟨#[]⟩,.int .i64 0,fault c]) ∧ Below w.heap.size w w' := by
  have HH : Hid _ := H
  clear H
  go_enter Tryz.func257,Tryz.ntmps257
  go_wp2_with (first | (go_at_call 256; refine (HH.out _).mono ?_; rintro e w' ⟨rfl,rfl⟩))
  go_ret3
  exact ⟨rfl,Below.refl _ _⟩
theorem readText_len (s : ByteArray) (a : Int) (N : Int) (q : Nat) (w : World) (hN : N < 0 ∨ 8000 < N)
    (H : ∀ w,Calls Tryz.prog 256 #[.string s,.int .i64 a] w fun e w' => e = .returned (.tuple #[.int .i64 N,.int .i64 q,.nilIface]) ∧ w' = w) :
    Calls Tryz.prog 257 #[.string s,.int .i64 a] w fun e w' => e = .returned (.tuple #[.string ⟨#[]⟩,.int .i64 0,fault 3]) ∧ Below w.heap.size w w' := by
  have HH : Hid _ := H
  clear H
  by_cases h0 : N < 0
  · go_enter Tryz.func257,Tryz.ntmps257
    go_wp2_with (first | (go_at_call 256; refine (HH.out _).mono ?_; rintro e w' ⟨rfl,rfl⟩))
    go_ret3
    exact ⟨rfl,Below.refl _ _⟩
  · have h1 : 8000 < N := by omega
    clear hN
    go_enter Tryz.func257,Tryz.ntmps257
    go_wp2_with (first | (go_at_call 256; refine (HH.out _).mono ?_; rintro e w' ⟨rfl,rfl⟩))
    go_ret3
    exact ⟨rfl,Below.refl _ _⟩
theorem readText_short (s : ByteArray) (a : Int) (N q : Nat) (w : World) (hN : N ≤ 8000) (hs : s.size ≤ 8000) (hq : q ≤ s.size) (hlt : s.size < q + N)
    (H : ∀ w,Calls Tryz.prog 256 #[.string s,.int .i64 a] w fun e w' => e = .returned (.tuple #[.int .i64 N,.int .i64 q,.nilIface]) ∧ w' = w) :
    Calls Tryz.prog 257 #[.string s,.int .i64 a] w fun e w' => e = .returned (.tuple #[.string ⟨#[]⟩,.int .i64 0,fault 4]) ∧ Below w.heap.size w w' := by
  have HH : Hid _ := H
  clear H
  go_enter Tryz.func257,Tryz.ntmps257
  go_wp2_with (first | (go_at_call 256; refine (HH.out _).mono ?_; rintro e w' ⟨rfl,rfl⟩))
  go_ret3
  exact ⟨rfl,Below.refl _ _⟩
theorem readText_good (s : ByteArray) (a : Int) (N q : Nat) (w : World) (hN : N ≤ 8000) (hs : s.size ≤ 8000) (_hq : q ≤ s.size) (hlt : q + N ≤ s.size)
    (H : ∀ w,Calls Tryz.prog 256 #[.string s,.int .i64 a] w fun e w' => e = .returned (.tuple #[.int .i64 N,.int .i64 q,.nilIface]) ∧ w' = w) :
    Calls Tryz.prog 257 #[.string s,.int .i64 a] w fun e w' => e = .returned (.tuple #[.string (s.extract q (q + N)),.int .i64 ((q + N : Nat) : Int),.nilIface]) ∧ Below w.heap.size w w' := by
  have HH : Hid _ := H
  clear H
  go_enter Tryz.func257,Tryz.ntmps257
  go_wp2_with fail
  refine (HH.out _).mono ?_
  rintro e w' ⟨rfl,rfl⟩
  go_wp2_with fail
  refine (impl_copyText _ _ (by simp; omega)).mono ?_
  rintro e w2 ⟨rfl,hb⟩
  go_wp2
  go_ret3
  exact ⟨rfl,hb⟩
def textRes (s : ByteArray) (a : Int) : ByteArray × Int × Nat :=
  let r := numRes s a
  if r.2.2 ≠ 0 then (⟨#[]⟩,0,r.2.2) else if r.1 < 0 ∨ 8000 < r.1 then (⟨#[]⟩,0,3) else if (s.size : Int) < r.2.1 + r.1 then (⟨#[]⟩,0,4)
    else (s.extract r.2.1.toNat (r.2.1.toNat + r.1.toNat),((r.2.1.toNat + r.1.toNat : Nat) : Int),0)
theorem textRes_bad {s : ByteArray} {a : Int} {c : Nat} (h : numRes s a = (0,0,c)) (hc : c ≠ 0) : textRes s a = (⟨#[]⟩,0,c) := by
  simp [textRes,h,hc]
theorem textRes_len {s : ByteArray} {a N : Int} {q : Nat} (h : numRes s a = (N,(q : Int),0)) (hN : N < 0 ∨ 8000 < N) : textRes s a = (⟨#[]⟩,0,3) := by
  simp [textRes,h,hN]
theorem textRes_short {s : ByteArray} {a : Int} {N q : Nat} (h : numRes s a = ((N : Int),(q : Int),0)) (hN : N ≤ 8000) (hlt : s.size < q + N) : textRes s a = (⟨#[]⟩,0,4) := by
  unfold textRes
  simp only [h]
  rw [if_neg (by simp),if_neg (by omega),if_pos (by omega)]
theorem textRes_good {s : ByteArray} {a : Int} {N q : Nat} (h : numRes s a = ((N : Int),(q : Int),0)) (hN : N ≤ 8000) (hlt : q + N ≤ s.size) : textRes s a = (s.extract q (q + N),((q + N : Nat) : Int),0) := by
  unfold textRes
  simp only [h]
  rw [if_neg (by simp),if_neg (by omega),if_neg (by omega),Int.toNat_natCast,Int.toNat_natCast]
theorem text_cases (s : ByteArray) (a : Int) : (∃ c : Nat,c ≠ 0 ∧ numRes s a = (0,0,c)) ∨ (∃ (N : Int) (q : Nat),numRes s a = (N,(q : Int),0) ∧ q ≤ s.size ∧ s.size ≤ 8000 ∧ (N < 0 ∨ 8000 < N)) ∨
    (∃ N q : Nat,numRes s a = ((N : Int),(q : Int),0) ∧ q ≤ s.size ∧ s.size ≤ 8000 ∧ N ≤ 8000 ∧ s.size < q + N) ∨ (∃ N q : Nat,numRes s a = ((N : Int),(q : Int),0) ∧ q ≤ s.size ∧ s.size ≤ 8000 ∧ N ≤ 8000 ∧ q + N ≤ s.size) := by
  rcases numRes_cases s a with h | ⟨N,q,h,hq,hs⟩
  · exact .inl h
  · by_cases hN : N < 0 ∨ 8000 < N
    · exact .inr (.inl ⟨N,q,h,hq,hs,hN⟩)
    · obtain ⟨n,rfl⟩ := Int.eq_ofNat_of_zero_le (show 0 ≤ N by omega)
      by_cases hlt : s.size < q + n
      · exact .inr (.inr (.inl ⟨n,q,h,hq,hs,by omega,hlt⟩))
      · exact .inr (.inr (.inr ⟨n,q,h,hq,hs,by omega,by omega⟩))
theorem impl_readText (s : ByteArray) (a : Int) (w : World) (hm : s.size ≤ maxLen) :
    Calls Tryz.prog 257 #[.string s,.int .i64 a] w fun e w' => e = .returned (.tuple #[.string (textRes s a).1,.int .i64 (textRes s a).2.1,errOf (textRes s a).2.2]) ∧ Below w.heap.size w w' := by
  have H := fun w => impl_readNum s a w hm
  rcases text_cases s a with ⟨c,hc,e⟩ | ⟨N,q,e,hq,hs,hN⟩ | ⟨N,q,e,hq,hs,hN,hlt⟩ | ⟨N,q,e,hq,hs,hN,hlt⟩
  · rw [textRes_bad e hc]
    rw [e] at H
    have e2 : errOf c = fault c := by rw [errOf,if_neg hc]
    simp only [numTup,e2] at H ⊢
    exact readText_bad s a c w H
  · rw [textRes_len e hN]
    rw [e] at H
    exact readText_len s a N q w hN H
  · rw [textRes_short e hN hlt]
    rw [e] at H
    exact readText_short s a N q w hN hs hq hlt H
  · rw [textRes_good e hN hlt]
    rw [e] at H
    exact readText_good s a N q w hN hs hq hlt H
set_option maxHeartbeats 1000000 in
theorem spec_getText_bad (s : ByteArray) (a : Int) (c : Nat) (w : World) (hc : c ≠ 0)
    (H : ∀ w,Calls Tryz.prog 169 #[.string s,.int .i64 a] w fun e w' => e = .returned (.agg #[.int .i64 0,.int .i64 0,.int .i64 c]) ∧ Below w.heap.size w w') :
    Calls Tryz.prog 170 #[.string s,.int .i64 a] w fun e w' => e = .returned (textOut ⟨#[]⟩ 0 c) ∧ Below w.heap.size w w' := by
  have HH : Hid _ := H
  clear H
  have hcb : ((c : Int) != 0) = true := by rw [bne_iff_ne]; omega
  clear hc
  go_enter Tryz.func170,Tryz.ntmps170
  go_wp2_with fail
  refine (HH.out _).mono ?_
  rintro e w1 ⟨rfl,hb1⟩
  have hz1 : w.heap.size < w1.heap.size := by have := hb1.size; simp at this; omega
  have hc1 := fun o => hb1.cell (p := ⟨w.heap.size,o,none⟩) (by simp)
  have hf1 := fun o => hb1.frozen (p := ⟨w.heap.size,o,none⟩) (by simp)
  have hB : Below w.heap.size w w1 := ((Below.refl _ _).alloc (Nat.le_refl _) _).trans (hb1.mono (by simp))
  go_wp2
  exact bodyPost_ret (v := textOut ⟨#[]⟩ 0 c) (by simp [results,Tryz.results170,go_sem,hc1,World.cell?_alloc_lt,hz1]) rfl ⟨rfl,(((hB.setCell (by simp) _).setCell (by simp) _).setCell (by simp) _).alloc (by simp; omega) _⟩
set_option maxHeartbeats 1000000 in
theorem spec_getText_neg (s : ByteArray) (a : Int) (N : Int) (q : Nat) (w : World) (hN : N < 0)
    (H : ∀ w,Calls Tryz.prog 169 #[.string s,.int .i64 a] w fun e w' => e = .returned (.agg #[.int .i64 N,.int .i64 q,.int .i64 0]) ∧ Below w.heap.size w w') :
    Calls Tryz.prog 170 #[.string s,.int .i64 a] w fun e w' => e = .returned (textOut ⟨#[]⟩ 0 3) ∧ Below w.heap.size w w' := by
  have HH : Hid _ := H
  clear H
  go_enter Tryz.func170,Tryz.ntmps170
  go_wp2_with fail
  refine (HH.out _).mono ?_
  rintro e w1 ⟨rfl,hb1⟩
  have hz1 : w.heap.size < w1.heap.size := by have := hb1.size; simp at this; omega
  have hc1 := fun o => hb1.cell (p := ⟨w.heap.size,o,none⟩) (by simp)
  have hf1 := fun o => hb1.frozen (p := ⟨w.heap.size,o,none⟩) (by simp)
  have hB : Below w.heap.size w w1 := ((Below.refl _ _).alloc (Nat.le_refl _) _).trans (hb1.mono (by simp))
  go_wp2
  exact bodyPost_ret (v := textOut ⟨#[]⟩ 0 3) (by simp [results,Tryz.results170,go_sem,hc1,World.cell?_alloc_lt,hz1]) rfl ⟨rfl,(((hB.setCell (by simp) _).setCell (by simp) _).setCell (by simp) _).alloc (by simp; omega) _⟩
set_option maxHeartbeats 1000000 in
theorem spec_getText_great (s : ByteArray) (a : Int) (N : Int) (q : Nat) (w : World) (hN : 8000 < N)
    (H : ∀ w,Calls Tryz.prog 169 #[.string s,.int .i64 a] w fun e w' => e = .returned (.agg #[.int .i64 N,.int .i64 q,.int .i64 0]) ∧ Below w.heap.size w w') :
    Calls Tryz.prog 170 #[.string s,.int .i64 a] w fun e w' => e = .returned (textOut ⟨#[]⟩ 0 3) ∧ Below w.heap.size w w' := by
  have HH : Hid _ := H
  clear H
  go_enter Tryz.func170,Tryz.ntmps170
  go_wp2_with fail
  refine (HH.out _).mono ?_
  rintro e w1 ⟨rfl,hb1⟩
  have hz1 : w.heap.size < w1.heap.size := by have := hb1.size; simp at this; omega
  have hc1 := fun o => hb1.cell (p := ⟨w.heap.size,o,none⟩) (by simp)
  have hf1 := fun o => hb1.frozen (p := ⟨w.heap.size,o,none⟩) (by simp)
  have hB : Below w.heap.size w w1 := ((Below.refl _ _).alloc (Nat.le_refl _) _).trans (hb1.mono (by simp))
  go_wp2
  exact bodyPost_ret (v := textOut ⟨#[]⟩ 0 3) (by simp [results,Tryz.results170,go_sem,hc1,World.cell?_alloc_lt,hz1]) rfl ⟨rfl,(((hB.setCell (by simp) _).setCell (by simp) _).setCell (by simp) _).alloc (by simp; omega) _⟩
set_option maxHeartbeats 1000000 in
theorem spec_getText_short (s : ByteArray) (a : Int) (N q : Nat) (w : World) (hN : N ≤ 8000) (hs : s.size ≤ 8000) (hlt : s.size < q + N)
    (H : ∀ w,Calls Tryz.prog 169 #[.string s,.int .i64 a] w fun e w' => e = .returned (.agg #[.int .i64 N,.int .i64 q,.int .i64 0]) ∧ Below w.heap.size w w') :
    Calls Tryz.prog 170 #[.string s,.int .i64 a] w fun e w' => e = .returned (textOut ⟨#[]⟩ 0 4) ∧ Below w.heap.size w w' := by
  have HH : Hid _ := H
  clear H
  go_enter Tryz.func170,Tryz.ntmps170
  go_wp2_with fail
  refine (HH.out _).mono ?_
  rintro e w1 ⟨rfl,hb1⟩
  have hz1 : w.heap.size < w1.heap.size := by have := hb1.size; simp at this; omega
  have hc1 := fun o => hb1.cell (p := ⟨w.heap.size,o,none⟩) (by simp)
  have hf1 := fun o => hb1.frozen (p := ⟨w.heap.size,o,none⟩) (by simp)
  have hB : Below w.heap.size w w1 := ((Below.refl _ _).alloc (Nat.le_refl _) _).trans (hb1.mono (by simp))
  go_wp2
  exact bodyPost_ret (v := textOut ⟨#[]⟩ 0 4) (by simp [results,Tryz.results170,go_sem,hc1,World.cell?_alloc_lt,hz1]) rfl ⟨rfl,(((hB.setCell (by simp) _).setCell (by simp) _).setCell (by simp) _).alloc (by simp; omega) _⟩
set_option maxHeartbeats 1000000 in
theorem spec_getText_good (s : ByteArray) (a : Int) (N q : Nat) (w : World) (hN : N ≤ 8000) (hs : s.size ≤ 8000) (hlt : q + N ≤ s.size)
    (H : ∀ w,Calls Tryz.prog 169 #[.string s,.int .i64 a] w fun e w' => e = .returned (.agg #[.int .i64 N,.int .i64 q,.int .i64 0]) ∧ Below w.heap.size w w') :
    Calls Tryz.prog 170 #[.string s,.int .i64 a] w fun e w' => e = .returned (textOut (s.extract q (q + N)) ((q + N : Nat) : Int) 0) ∧ Below w.heap.size w w' := by
  have HH : Hid _ := H
  clear H
  have hwr : IntKind.i64.wrap ((q : Int) + (N : Int)) = (q : Int) + (N : Int) := by
    simp [IntKind.wrap,IntKind.bits,IntKind.signed]; omega
  have hi1 : (q : Int) ≤ (q : Int) + (N : Int) := by omega
  have hi2 : (q : Int) + (N : Int) ≤ (s.size : Int) := by omega
  have hi3 : (0 : Int) ≤ (q : Int) + (N : Int) := by omega
  go_enter Tryz.func170,Tryz.ntmps170
  go_wp2_with fail
  refine (HH.out _).mono ?_
  rintro e w1 ⟨rfl,hb1⟩
  have hz1 : w.heap.size < w1.heap.size := by have := hb1.size; simp at this; omega
  have hc1 := fun o => hb1.cell (p := ⟨w.heap.size,o,none⟩) (by simp)
  have hf1 := fun o => hb1.frozen (p := ⟨w.heap.size,o,none⟩) (by simp)
  have hB : Below w.heap.size w w1 := ((Below.refl _ _).alloc (Nat.le_refl _) _).trans (hb1.mono (by simp))
  go_wp2
  go_region
  go_wp2
  exact bodyPost_ret (v := textOut (s.extract q (q + N)) ((q : Int) + (N : Int)) 0) (by simp [results,Tryz.results170,go_sem,hc1,World.cell?_alloc_lt,hz1]) rfl ⟨rfl,((((hB.setCell (by simp) _).setCell (by simp) _).setCell (by simp) _).alloc (by simp; omega) _).drew⟩
theorem spec_getText (s : ByteArray) (a : Int) (w : World) (hm : s.size ≤ maxLen) :
    Calls Tryz.prog 170 #[.string s,.int .i64 a] w fun e w' => e = .returned (textOut (textRes s a).1 (textRes s a).2.1 ((textRes s a).2.2 : Int)) ∧ Below w.heap.size w w' := by
  have H := fun w => spec_getNum s a w hm
  rcases text_cases s a with ⟨c,hc,e⟩ | ⟨N,q,e,hq,hs,hN⟩ | ⟨N,q,e,hq,hs,hN,hlt⟩ | ⟨N,q,e,hq,hs,hN,hlt⟩
  · rw [textRes_bad e hc]
    rw [e] at H
    exact spec_getText_bad s a c w hc H
  · rw [textRes_len e hN]
    rw [e] at H
    rcases hN with hN | hN
    · exact spec_getText_neg s a N q w hN H
    · exact spec_getText_great s a N q w hN H
  · rw [textRes_short e hN hlt]
    rw [e] at H
    exact spec_getText_short s a N q w hN hs hlt H
  · rw [textRes_good e hN hlt]
    rw [e] at H
    exact spec_getText_good s a N q w hN hs hlt H
end Go.Proofs.YtahccighonddaaaGreatDoor
namespace Go.Proofs.YtahccighonddaaaGreatDoor
open Go.RowKit
theorem toNat_of {x : Nat} (h : x < 256) : (UInt8.ofNat x).toNat = x := by
  rw [UInt8.toNat_ofNat']
  exact Nat.mod_eq_of_lt h
end Go.Proofs.YtahccighonddaaaGreatDoor
namespace Go.Proofs.YtahccighonddaaaGreatDoor
open Go.RowKit
theorem impl_unseal_size (s : ByteArray) (w : World) (hm : s.size ≤ maxLen) (hs : 8000 < s.size) :
    Calls Tryz.prog 249 #[.string s] w fun e w' => e = .returned (textOut ⟨#[]⟩ 0 2) ∧ Below w.heap.size w w' := by
  unfold maxLen at hm
  go_enter Tryz.func249,Tryz.ntmps249
  go_wp2
  exact bodyPost_ret (v := textOut ⟨#[]⟩ 0 2) (by simp [results,Tryz.results249,go_sem,textOut]) rfl ⟨rfl,(Below.refl _ _).alloc (Nat.le_refl _) _⟩
theorem impl_unseal_short (s : ByteArray) (w : World) (hs : s.size < 4) :
    Calls Tryz.prog 249 #[.string s] w fun e w' => e = .returned (textOut ⟨#[]⟩ 0 4) ∧ Below w.heap.size w w' := by
  go_enter Tryz.func249,Tryz.ntmps249
  go_wp2
  exact bodyPost_ret (v := textOut ⟨#[]⟩ 0 4) (by simp [results,Tryz.results249,go_sem,textOut]) rfl ⟨rfl,(Below.refl _ _).alloc (Nat.le_refl _) _⟩
def sealedB (s : ByteArray) : Bool := sealBytes (List.take (s.size - 4) s.data.toList) == s.toList
set_option maxHeartbeats 1000000 in
theorem impl_unseal_bad (s : ByteArray) (w : World) (h4 : 4 ≤ s.size) (hs : s.size ≤ 8000) (hq : sealedB s = false) :
    Calls Tryz.prog 249 #[.string s] w fun e w' => e = .returned (textOut ⟨#[]⟩ 0 5) ∧ Below w.heap.size w w' := by
  unfold sealedB at hq
  go_enter Tryz.func249,Tryz.ntmps249
  go_wp2_with fail
  refine (impl_copyText _ _ (by simp; omega)).mono ?_
  rintro e w1 ⟨rfl,hb1⟩
  go_wp2_with fail
  refine (impl_seal _ _ (by simp; omega)).mono ?_
  rintro e w2 ⟨rfl,hb2⟩
  have hz1 : w.heap.size < w1.heap.size := by have := hb1.size; simp at this; omega
  have hc1 := fun o => hb1.cell (p := ⟨w.heap.size,o,none⟩) (by simp)
  have hc2 := fun o => hb2.cell (p := ⟨w.heap.size,o,none⟩) hz1
  have hf1 := fun o => hb1.frozen (p := ⟨w.heap.size,o,none⟩) (by simp)
  have hf2 := fun o => hb2.frozen (p := ⟨w.heap.size,o,none⟩) hz1
  have hB : Below w.heap.size w w2 := (((Below.refl _ _).alloc (Nat.le_refl _) _).trans (hb1.mono (by simp))).trans (hb2.mono (by omega))
  go_wp2
  exact bodyPost_ret (v := textOut ⟨#[]⟩ 0 5) (by simp [results,Tryz.results249,go_sem,textOut,hc1,hc2]) rfl ⟨rfl,((hB.setCell (by simp) _).setCell (by simp) _).setCell (by simp) _⟩
set_option maxHeartbeats 1000000 in
theorem impl_unseal_good (s : ByteArray) (w : World) (h4 : 4 ≤ s.size) (hs : s.size ≤ 8000) (hq : sealedB s = true) :
    Calls Tryz.prog 249 #[.string s] w fun e w' => e = .returned (textOut (s.extract 0 (s.size - 4)) 0 0) ∧ Below w.heap.size w w' := by
  unfold sealedB at hq
  go_enter Tryz.func249,Tryz.ntmps249
  go_wp2_with fail
  refine (impl_copyText _ _ (by simp; omega)).mono ?_
  rintro e w1 ⟨rfl,hb1⟩
  go_wp2_with fail
  refine (impl_seal _ _ (by simp; omega)).mono ?_
  rintro e w2 ⟨rfl,hb2⟩
  have hz1 : w.heap.size < w1.heap.size := by have := hb1.size; simp at this; omega
  have hc1 := fun o => hb1.cell (p := ⟨w.heap.size,o,none⟩) (by simp)
  have hc2 := fun o => hb2.cell (p := ⟨w.heap.size,o,none⟩) hz1
  have hf1 := fun o => hb1.frozen (p := ⟨w.heap.size,o,none⟩) (by simp)
  have hf2 := fun o => hb2.frozen (p := ⟨w.heap.size,o,none⟩) hz1
  have hB : Below w.heap.size w w2 := (((Below.refl _ _).alloc (Nat.le_refl _) _).trans (hb1.mono (by simp))).trans (hb2.mono (by omega))
  go_wp2
  exact bodyPost_ret (v := textOut (s.extract 0 (s.size - 4)) 0 0) (by simp [results,Tryz.results249,go_sem,textOut,hc1,hc2]) rfl ⟨rfl,((hB.setCell (by simp) _).setCell (by simp) _).setCell (by simp) _⟩
theorem i64_wrap_in (n : Int) (h1 : -9223372036854775808 ≤ n) (h2 : n ≤ 9223372036854775807) : IntKind.i64.wrap n = n := by
  simp [IntKind.wrap,IntKind.bits,IntKind.signed]; omega
theorem spec_unseal_size (s : ByteArray) (w : World) (hm : s.size ≤ maxLen) (hs : 8000 < s.size) :
    Calls Tryz.prog 168 #[.string s] w fun e w' => e = .returned (textOut ⟨#[]⟩ 0 2) ∧ Below w.heap.size w w' := by
  unfold maxLen at hm
  go_enter Tryz.func168,Tryz.ntmps168
  go_wp2
  exact bodyPost_ret (v := textOut ⟨#[]⟩ 0 2) (by simp [results,Tryz.results168,go_sem,textOut]) rfl ⟨rfl,(Below.refl _ _).alloc (Nat.le_refl _) _⟩
theorem spec_unseal_short (s : ByteArray) (w : World) (hs : s.size < 4) :
    Calls Tryz.prog 168 #[.string s] w fun e w' => e = .returned (textOut ⟨#[]⟩ 0 4) ∧ Below w.heap.size w w' := by
  go_enter Tryz.func168,Tryz.ntmps168
  go_wp2
  exact bodyPost_ret (v := textOut ⟨#[]⟩ 0 4) (by simp [results,Tryz.results168,go_sem,textOut]) rfl ⟨rfl,(Below.refl _ _).alloc (Nat.le_refl _) _⟩
theorem sealed_last (s : ByteArray) (h4 : 4 ≤ s.size) : sealedB s = (four (crcOf 0 (List.take (s.size - 4) s.data.toList)) == (s.extract ((s.size : Int) - 4).toNat s.size).toList) := by
  have e : ((s.size : Int) - 4).toNat = s.size - 4 := by omega
  have hd : List.take (s.size - (s.size - 4)) (List.drop (s.size - 4) s.data.toList) = List.drop (s.size - 4) s.data.toList := List.take_of_length_le (by simp)
  unfold sealedB sealBytes
  rw [e,Lib.extract_toList,Lib.toList_data,hd,Bool.eq_iff_iff,beq_iff_eq,beq_iff_eq]
  constructor
  · intro h
    have h' := h.trans (List.take_append_drop (s.size - 4) s.data.toList).symm
    exact List.append_cancel_left h'
  · intro h
    rw [h]
    exact List.take_append_drop _ _
set_option maxHeartbeats 1000000 in
theorem spec_unseal_bad (s : ByteArray) (w : World) (h4 : 4 ≤ s.size) (hs : s.size ≤ 8000) (hq : sealedB s = false) :
    Calls Tryz.prog 168 #[.string s] w fun e w' => e = .returned (textOut ⟨#[]⟩ 0 5) ∧ Below w.heap.size w w' := by
  have hq' := (sealed_last s h4).symm.trans hq
  clear hq
  have HQ : Hid ((four (crcOf 0 (List.take (s.size - 4) s.data.toList)) == (s.extract ((s.size : Int) - 4).toNat s.size).toList) = false) := hq'
  clear hq'
  have h4' : (4 : Int) ≤ (s.size : Int) := by omega
  have hle : (s.size : Int) - 4 ≤ (s.size : Int) := by omega
  have hwr : IntKind.i64.wrap ((s.size : Int) - 4) = (s.size : Int) - 4 := i64_wrap_in _ (by omega) (by omega)
  have HC : Hid (∀ w,Calls Tryz.prog 182 #[.int .i64 0,.string (s.extract 0 (s.size - 4))] w fun e w' => e = .returned (.int .i64 (crcOf 0 (s.extract 0 (s.size - 4)).data.toList : Nat)) ∧ w' = w) := fun w => spec_l01Crc 0 _ w (by omega) (by simp; omega)
  go_enter Tryz.func168,Tryz.ntmps168
  go_wp2
  go_region_with (first | (go_at_call 182; refine (HC.out _).mono ?_; rintro e w1 ⟨rfl,rfl⟩) | (go_at_call 181; refine (spec_four _ _ (crcOf_lt _ _)).mono ?_; rintro e w2 ⟨rfl,hb2⟩))
  have hz1 : w.heap.size < w2.heap.size := by have := hb2.size; simp at this; omega
  have hc2 := fun o => hb2.cell (p := ⟨w.heap.size,o,none⟩) (by simp)
  have hf2 := fun o => hb2.frozen (p := ⟨w.heap.size,o,none⟩) (by simp)
  have hB : Below w.heap.size w w2 := (((Below.refl _ _).alloc (Nat.le_refl _) _).drew).trans (hb2.mono (by simp))
  rw [HQ.out]
  clear HQ HC hwr
  go_wp2
  exact bodyPost_ret (v := textOut ⟨#[]⟩ 0 5) (by simp [results,Tryz.results168,go_sem,textOut,hc2]) rfl ⟨rfl,((hB.setCell (by simp) _).setCell (by simp) _).setCell (by simp) _⟩
set_option maxHeartbeats 1000000 in
theorem spec_unseal_good (s : ByteArray) (w : World) (h4 : 4 ≤ s.size) (hs : s.size ≤ 8000) (hq : sealedB s = true) :
    Calls Tryz.prog 168 #[.string s] w fun e w' => e = .returned (textOut (s.extract 0 (s.size - 4)) 0 0) ∧ Below w.heap.size w w' := by
  have hq' := (sealed_last s h4).symm.trans hq
  clear hq
  have HQ : Hid ((four (crcOf 0 (List.take (s.size - 4) s.data.toList)) == (s.extract ((s.size : Int) - 4).toNat s.size).toList) = true) := hq'
  clear hq'
  have h4' : (4 : Int) ≤ (s.size : Int) := by omega
  have hle : (s.size : Int) - 4 ≤ (s.size : Int) := by omega
  have hwr : IntKind.i64.wrap ((s.size : Int) - 4) = (s.size : Int) - 4 := i64_wrap_in _ (by omega) (by omega)
  have HC : Hid (∀ w,Calls Tryz.prog 182 #[.int .i64 0,.string (s.extract 0 (s.size - 4))] w fun e w' => e = .returned (.int .i64 (crcOf 0 (s.extract 0 (s.size - 4)).data.toList : Nat)) ∧ w' = w) := fun w => spec_l01Crc 0 _ w (by omega) (by simp; omega)
  go_enter Tryz.func168,Tryz.ntmps168
  go_wp2
  go_region_with (first | (go_at_call 182; refine (HC.out _).mono ?_; rintro e w1 ⟨rfl,rfl⟩) | (go_at_call 181; refine (spec_four _ _ (crcOf_lt _ _)).mono ?_; rintro e w2 ⟨rfl,hb2⟩))
  have hz1 : w.heap.size < w2.heap.size := by have := hb2.size; simp at this; omega
  have hc2 := fun o => hb2.cell (p := ⟨w.heap.size,o,none⟩) (by simp)
  have hf2 := fun o => hb2.frozen (p := ⟨w.heap.size,o,none⟩) (by simp)
  have hB : Below w.heap.size w w2 := (((Below.refl _ _).alloc (Nat.le_refl _) _).drew).trans (hb2.mono (by simp))
  rw [HQ.out]
  clear HQ HC hwr
  go_wp2
  exact bodyPost_ret (v := textOut (s.extract 0 (s.size - 4)) 0 0) (by simp [results,Tryz.results168,go_sem,textOut,hc2]) rfl ⟨rfl,((hB.setCell (by simp) _).setCell (by simp) _).setCell (by simp) _⟩
end Go.Proofs.YtahccighonddaaaGreatDoor
namespace Go.Proofs.YtahccighonddaaaGreatDoor
open Go.RowKit
theorem ofNat_toNat8 (b : UInt8) : UInt8.ofNat b.toNat = b := by
  apply UInt8.toNat_inj.1
  rw [toNat_of b.toNat_lt]
theorem scan_back : ∀ (l : List UInt8) (k U V n : Nat),k ≤ 9 → scan l k U = (V,n,0) → ∃ v,V = U + v * 128 ^ k ∧ k + 1 ≤ n ∧ n ≤ l.length + k ∧ l.take (n - k) = vb (9 - k) v ∧ (k = 0 ∨ 0 < v)
  | [],_,_,_,_,_,h => by simp [scan] at h
  | b :: r,k,U,V,n,hk,h => by
    have hlt := b.toNat_lt
    by_cases hb : b.toNat < 128 ∨ k = 9
    · rw [scan,if_pos hb] at h
      by_cases h1 : k = 9 ∧ 1 < b.toNat
      · rw [if_pos h1] at h; simp at h
      rw [if_neg h1] at h
      by_cases h2 : 0 < k ∧ b.toNat = 0
      · rw [if_pos h2] at h; simp at h
      rw [if_neg h2] at h
      simp only [Prod.mk.injEq,and_true] at h
      obtain ⟨rfl,rfl⟩ := h
      refine ⟨b.toNat,rfl,Nat.le_refl _,by simp; omega,?_,by omega⟩
      rw [Nat.add_sub_cancel_left,vb_end (by omega),ofNat_toNat8]
      rfl
    · rw [scan_more (by omega) (by omega)] at h
      obtain ⟨v,hV,hn1,hn2,ht,hv⟩ := scan_back r (k + 1) _ V n (by omega) h
      have hv' : 0 < v := by omega
      refine ⟨(b.toNat - 128) + v * 128,?_,by omega,by simp; omega,?_,.inr (by omega)⟩
      · rw [hV,Nat.pow_succ,Nat.add_mul,Nat.mul_assoc,Nat.mul_comm (128 ^ k) 128,Nat.add_assoc]
      · have e1 : n - k = (n - (k + 1)) + 1 := by omega
        have e2 : 9 - k = (9 - (k + 1)) + 1 := by omega
        have e3 : ((b.toNat - 128) + v * 128) % 128 + 128 = b.toNat := by omega
        have e4 : ((b.toNat - 128) + v * 128) / 128 = v := by omega
        rw [e1,e2,List.take_succ_cons,ht,vb_step (by omega),e3,e4,ofNat_toNat8]
theorem fold_unfold (u : Nat) : fold64 (unfold64 u) = u := by
  unfold unfold64 fold64
  by_cases h : u % 2 = 0
  · rw [if_pos h,if_pos (by omega)]; omega
  · rw [if_neg h,if_neg (by omega)]; omega
theorem numRes_bytes {s : ByteArray} {p : Nat} {n : Int} {q : Nat} (h : numRes s p = (n,(q : Int),0)) :
    s.data.toList.drop p = numBytes n ++ s.data.toList.drop q ∧ q = p + (numBytes n).length ∧ q ≤ s.size ∧ s.size ≤ 8000 := by
  unfold numRes at h
  by_cases h0 : 8000 < s.size
  · rw [if_pos h0] at h; simp at h
  rw [if_neg h0,if_neg (by omega),Int.toNat_natCast] at h
  generalize hR : scan (s.data.toList.drop p) 0 0 = R at h
  obtain ⟨V,m,c⟩ := R
  by_cases h1 : c = 0
  · subst h1
    simp only [if_true,Prod.mk.injEq,and_true] at h
    obtain ⟨hn,hq⟩ := h
    obtain ⟨v,hV,hk1,hk2,ht,_⟩ := scan_back (s.data.toList.drop p) 0 0 _ _ (by omega) hR
    have e : numBytes n = vb 9 v := by
      rw [← hn,numBytes,fold_unfold,hV]
      simp
    rw [Nat.sub_zero,Nat.sub_zero] at ht
    have hlen : (numBytes n).length = m := by
      rw [e,← ht,List.length_take]
      omega
    have hsz : s.data.toList.length = s.size := by simp
    rw [List.length_drop,hsz] at hk2
    refine ⟨?_,by omega,by omega,by omega⟩
    rw [e,← ht,show q = p + m by omega,← List.drop_drop,List.take_append_drop]
  · simp only [if_neg h1,Prod.mk.injEq] at h
    exact absurd h.2.2 h1
theorem textRes_bytes {s : ByteArray} {p : Nat} {d : ByteArray} {q : Nat} (h : textRes s p = (d,(q : Int),0)) :
    s.data.toList.drop p = textBytes d.data.toList ++ s.data.toList.drop q ∧ q = p + (textBytes d.data.toList).length ∧ q ≤ s.size ∧ d.size ≤ 8000 := by
  rcases text_cases s p with ⟨c,hc,e⟩ | ⟨N,q',e,hq,hs,hN⟩ | ⟨N,q',e,hq,hs,hN,hlt⟩ | ⟨N,q',e,hq,hs,hN,hlt⟩
  · rw [textRes_bad e hc] at h
    simp only [Prod.mk.injEq] at h
    exact absurd h.2.2 hc
  · rw [textRes_len e hN] at h; simp at h
  · rw [textRes_short e hN hlt] at h; simp at h
  · rw [textRes_good e hN hlt] at h
    simp only [Prod.mk.injEq,and_true] at h
    obtain ⟨rfl,hq2⟩ := h
    obtain ⟨hb,hq3,_,_⟩ := numRes_bytes e
    have hsz : s.data.toList.length = s.size := by simp
    have hd : (s.extract q' (q' + N)).data.toList = (s.data.toList.drop q').take N := by
      rw [Lib.extract_eq,Nat.add_sub_cancel_left]
    have hl : ((s.data.toList.drop q').take N).length = N := by rw [List.length_take,List.length_drop]; omega
    refine ⟨?_,?_,by omega,by simp; omega⟩
    · rw [hb,textBytes,hd,hl,List.append_assoc,show q = q' + N by omega,← List.drop_drop,List.take_append_drop]
    · rw [textBytes,hd,List.length_append,hl]; omega
def recRightB (k t : Int) (d : ByteArray) : Bool :=
  decide (1 ≤ k ∧ k ≤ 3) && decide (1 ≤ t ∧ t ≤ 1000000) && decide (d.size ≤ 16) && (decide (k = 1) || decide (d.size = 0))
def recBody (k t : Int) (d : List UInt8) : List UInt8 := numBytes k ++ numBytes t ++ textBytes d
def recBytes (k t : Int) (d : ByteArray) : List UInt8 := if recRightB k t d then sealBytes (recBody k t d.data.toList) else []
def recOfRes (b : ByteArray) : Int × Int × ByteArray :=
  let x := numRes b 0
  if x.2.2 ≠ 0 then (0,0,⟨#[]⟩) else
    let y := numRes b x.2.1
    if y.2.2 ≠ 0 then (0,0,⟨#[]⟩) else
      let z := textRes b y.2.1
      if z.2.2 ≠ 0 then (0,0,⟨#[]⟩) else
        if z.2.1 = (b.size : Int) ∧ recRightB x.1 y.1 z.1 = true then (x.1,y.1,z.1) else (0,0,⟨#[]⟩)
theorem sealBytes_inj {a b : List UInt8} (h : sealBytes a = sealBytes b) : a = b := by
  have hl : a.length = b.length := by
    have := congrArg List.length h
    simpa [sealBytes,four_len] using this
  exact (List.append_inj h hl).1
theorem sealedB_eq {s : ByteArray} (h : sealedB s = true) : sealBytes (s.extract 0 (s.size - 4)).data.toList = s.data.toList := by
  unfold sealedB at h
  rw [beq_iff_eq,Lib.toList_data] at h
  rw [Lib.extract_eq]
  simpa using h
theorem rec_same {s b : ByteArray} {k t : Int} {d : ByteArray} {p q r : Nat} (hb : b = s.extract 0 (s.size - 4)) (hs : sealedB s = true) (h4 : 4 ≤ s.size)
    (h1 : numRes b (0 : Nat) = (k,(p : Int),0)) (h2 : numRes b p = (t,(q : Int),0)) (h3 : textRes b q = (d,(r : Int),0)) :
    (recBytes k t d = s.data.toList) ↔ ((r : Int) = (b.size : Int) ∧ recRightB k t d = true) := by
  obtain ⟨e1,_,_,_⟩ := numRes_bytes h1
  obtain ⟨e2,_,_,_⟩ := numRes_bytes h2
  obtain ⟨e3,_,hr,_⟩ := textRes_bytes h3
  have hall : b.data.toList = recBody k t d.data.toList ++ b.data.toList.drop r := by
    rw [List.drop_zero] at e1
    rw [recBody,List.append_assoc,List.append_assoc,← e3,← e2]
    exact e1
  have hsz : b.data.toList.length = b.size := by simp
  have hse : sealBytes b.data.toList = s.data.toList := by rw [hb]; exact sealedB_eq hs
  have hs0 : s.data.toList.length = s.size := by simp
  unfold recBytes
  cases hR : recRightB k t d
  · simp only [Bool.false_eq_true,if_false,and_false,iff_false]
    intro h
    rw [← h] at hs0
    simp at hs0
    omega
  · simp only [if_true,and_true]
    constructor
    · intro h
      have h' := sealBytes_inj (h.trans hse.symm)
      have : (b.data.toList.drop r).length = 0 := by
        have hl := congrArg List.length h'
        have hl2 := congrArg List.length hall
        rw [List.length_append] at hl2
        omega
      rw [List.length_drop,hsz] at this
      omega
    · intro h
      have hd : b.data.toList.drop r = [] := List.drop_of_length_le (by omega)
      rw [hd,List.append_nil] at hall
      rw [← hse,← hall]
end Go.Proofs.YtahccighonddaaaGreatDoor
namespace Go.Proofs.YtahccighonddaaaGreatDoor
open Go.RowKit
abbrev recV (k t : Int) (d : ByteArray) : Value := .agg #[.int .i64 k,.int .i64 t,.string d]
theorem isEmpty_size (d : ByteArray) : d.toList.isEmpty = decide (d.size = 0) := by
  rw [Lib.toList_data]
  have hsz : d.data.toList.length = d.size := by simp
  cases h : d.data.toList with
  | nil => rw [h] at hsz; simp at hsz; simp [← hsz]
  | cons x r => rw [h] at hsz; exact (decide_eq_false (by simp at hsz; omega)).symm
theorem right_iff {k t : Int} {d : ByteArray} : recRightB k t d = true ↔ ((1 ≤ k ∧ k ≤ 3) ∧ (1 ≤ t ∧ t ≤ 1000000) ∧ d.size ≤ 16 ∧ (k = 1 ∨ d.size = 0)) := by
  simp only [recRightB,Bool.and_eq_true,Bool.or_eq_true,decide_eq_true_eq]
  omega
theorem right_yes {k t : Int} {d : ByteArray} (h1 : 1 ≤ k ∧ k ≤ 3) (h2 : 1 ≤ t ∧ t ≤ 1000000) (h3 : d.size ≤ 16) (h4 : k = 1 ∨ d.size = 0) : recRightB k t d = true :=
  right_iff.2 ⟨h1,h2,h3,h4⟩
theorem right_no {k t : Int} {d : ByteArray} (h : ¬ ((1 ≤ k ∧ k ≤ 3) ∧ (1 ≤ t ∧ t ≤ 1000000) ∧ d.size ≤ 16 ∧ (k = 1 ∨ d.size = 0))) : recRightB k t d = false := by
  cases hR : recRightB k t d
  · rfl
  · exfalso
    simp only [recRightB,Bool.and_eq_true,Bool.or_eq_true,decide_eq_true_eq] at hR
    omega
theorem spec_is (n a b : Int) (w : World) :
    Calls Tryz.prog 61 #[.int .i64 n,.int .i64 a,.int .i64 b] w fun e w' => e = .returned (.bool (decide (a ≤ n ∧ n ≤ b))) ∧ w' = w := by
  by_cases h1 : a ≤ n
  · by_cases h2 : n ≤ b
    · go_enter Tryz.func61,Tryz.ntmps61
      go_wp2
      go_ret
      exact ⟨ret_bool (decide_eq_true ⟨h1,h2⟩).symm,rfl⟩
    · go_enter Tryz.func61,Tryz.ntmps61
      go_wp2
      go_ret
      exact ⟨ret_bool (decide_eq_false (by omega)).symm,rfl⟩
  · go_enter Tryz.func61,Tryz.ntmps61
    go_wp2
    go_ret
    exact ⟨ret_bool (by simp; omega),rfl⟩
theorem spec_recRight (k t : Int) (d : ByteArray) (w : World) (hm : d.size ≤ maxLen) :
    Calls Tryz.prog 211 #[recV k t d] w fun e w' => e = .returned (.bool (recRightB k t d)) ∧ Below w.heap.size w w' := by
  unfold maxLen at hm
  go_enter Tryz.func211,Tryz.ntmps211
  go_wp2_with (first | (go_at_call 61; refine (spec_is _ _ _ _).mono ?_; rintro e w' ⟨rfl,rfl⟩))
  · rename_i h1 h2 h3 h4
    subst h4
    go_ret
    exact ⟨ret_bool (right_yes h1 h2 (by omega) (.inl rfl)).symm,(Below.refl _ _).alloc (Nat.le_refl _) _⟩
  · rename_i h1 h2 h3 h4
    go_ret
    refine ⟨ret_bool ?_,(Below.refl _ _).alloc (Nat.le_refl _) _⟩
    rw [isEmpty_size,beq_false_of_ne h4,Bool.false_or]
    by_cases h5 : d.size = 0
    · rw [decide_eq_true h5,right_yes h1 h2 (by omega) (.inr h5)]
    · rw [decide_eq_false h5,right_no (by omega)]
  · rename_i h1 h2 h3
    go_ret
    exact ⟨ret_bool (right_no (by omega)).symm,(Below.refl _ _).alloc (Nat.le_refl _) _⟩
  · rename_i h1 h2
    go_ret
    exact ⟨ret_bool (right_no (by omega)).symm,(Below.refl _ _).alloc (Nat.le_refl _) _⟩
  · rename_i h1
    go_ret
    exact ⟨ret_bool (right_no (by omega)).symm,(Below.refl _ _).alloc (Nat.le_refl _) _⟩
end Go.Proofs.YtahccighonddaaaGreatDoor
