import Derived.Test.YtahccighonddaaaGreatDoorRecSpec
import Derived.Test.YtahccighonddaaaGreatDoorTabs
import Derived.Laws.StructEq
import Derived.Test.YtahccighonddaaaGreatDoorRecSpec2
namespace Go.Proofs.YtahccighonddaaaGreatDoor
open Go.RowKit
end Go.Proofs.YtahccighonddaaaGreatDoor
namespace Go.Proofs.YtahccighonddaaaGreatDoor
open Go.RowKit
theorem recOfRes_1 {b : ByteArray} {c : Nat} (h1 : numRes b 0 = (0,0,c)) (hc : c ≠ 0) : recOfRes b = (0,0,⟨#[]⟩) := by
  simp [recOfRes,h1,hc]
theorem recOfRes_2 {b : ByteArray} {k : Int} {p c : Nat} (h1 : numRes b 0 = (k,(p : Int),0)) (h2 : numRes b p = (0,0,c)) (hc : c ≠ 0) : recOfRes b = (0,0,⟨#[]⟩) := by
  simp [recOfRes,h1,h2,hc]
theorem recOfRes_3 {b d : ByteArray} {k t a : Int} {p q c : Nat} (h1 : numRes b 0 = (k,(p : Int),0)) (h2 : numRes b p = (t,(q : Int),0)) (h3 : textRes b q = (d,a,c)) (hc : c ≠ 0) : recOfRes b = (0,0,⟨#[]⟩) := by
  simp [recOfRes,h1,h2,h3,hc]
theorem recOfRes_4 {b d : ByteArray} {k t a : Int} {p q : Nat} (h1 : numRes b 0 = (k,(p : Int),0)) (h2 : numRes b p = (t,(q : Int),0)) (h3 : textRes b q = (d,a,0)) (h : ¬ (a = (b.size : Int) ∧ recRightB k t d = true)) : recOfRes b = (0,0,⟨#[]⟩) := by
  simp only [recOfRes,h1,h2,h3]
  simp
  intro e1 e2
  exact absurd ⟨e1,e2⟩ h
theorem recOfRes_5 {b d : ByteArray} {k t a : Int} {p q : Nat} (h1 : numRes b 0 = (k,(p : Int),0)) (h2 : numRes b p = (t,(q : Int),0)) (h3 : textRes b q = (d,a,0)) (h : a = (b.size : Int)) (hR : recRightB k t d = true) : recOfRes b = (k,t,d) := by
  simp [recOfRes,h1,h2,h3,h,hR]
theorem recOf_1 (b : ByteArray) (c : Nat) (w : World)
    (H : ∀ w,Calls Tryz.prog 256 #[.string b,.int .i64 0] w fun e w' => e = .returned (.tuple #[.int .i64 0,.int .i64 0,fault c]) ∧ w' = w) :
    Calls Tryz.prog 250 #[.string b] w fun e w' => e = .returned (recV 0 0 ⟨#[]⟩) ∧ Below w.heap.size w w' := by
  have HH : Hid _ := H
  clear H
  go_enter Tryz.func250,Tryz.ntmps250
  go_wp2_with (first | (go_at_call 256; refine (HH.out _).mono ?_; rintro e w' ⟨rfl,rfl⟩))
  exact bodyPost_ret (v := recV 0 0 ⟨#[]⟩) (by simp [results,Tryz.results250,go_sem]) rfl ⟨rfl,(Below.refl _ _).alloc (Nat.le_refl _) _⟩
set_option maxHeartbeats 1000000 in
theorem recOf_2 (b : ByteArray) (k : Int) (p c : Nat) (w : World)
    (H1 : ∀ w,Calls Tryz.prog 256 #[.string b,.int .i64 0] w fun e w' => e = .returned (.tuple #[.int .i64 k,.int .i64 p,.nilIface]) ∧ w' = w)
    (H2 : ∀ w,Calls Tryz.prog 256 #[.string b,.int .i64 p] w fun e w' => e = .returned (.tuple #[.int .i64 0,.int .i64 0,fault c]) ∧ w' = w) :
    Calls Tryz.prog 250 #[.string b] w fun e w' => e = .returned (recV 0 0 ⟨#[]⟩) ∧ Below w.heap.size w w' := by
  have HH1 : Hid _ := H1
  have HH2 : Hid _ := H2
  clear H1 H2
  go_enter Tryz.func250,Tryz.ntmps250
  go_wp2_with fail
  refine (HH1.out _).mono ?_
  rintro e w1 ⟨rfl,rfl⟩
  go_wp2_with fail
  refine (HH2.out _).mono ?_
  rintro e w1 ⟨rfl,rfl⟩
  go_wp2
  exact bodyPost_ret (v := recV 0 0 ⟨#[]⟩) (by simp [results,Tryz.results250,go_sem]) rfl ⟨rfl,(Below.refl _ _).alloc (Nat.le_refl _) _⟩
set_option maxHeartbeats 1000000 in
theorem recOf_3 (b : ByteArray) (k t : Int) (p q c : Nat) (w : World)
    (H1 : ∀ w,Calls Tryz.prog 256 #[.string b,.int .i64 0] w fun e w' => e = .returned (.tuple #[.int .i64 k,.int .i64 p,.nilIface]) ∧ w' = w)
    (H2 : ∀ w,Calls Tryz.prog 256 #[.string b,.int .i64 p] w fun e w' => e = .returned (.tuple #[.int .i64 t,.int .i64 q,.nilIface]) ∧ w' = w)
    (H3 : ∀ w,Calls Tryz.prog 257 #[.string b,.int .i64 q] w fun e w' => e = .returned (.tuple #[.string ⟨#[]⟩,.int .i64 0,fault c]) ∧ Below w.heap.size w w') :
    Calls Tryz.prog 250 #[.string b] w fun e w' => e = .returned (recV 0 0 ⟨#[]⟩) ∧ Below w.heap.size w w' := by
  have HH1 : Hid _ := H1
  have HH2 : Hid _ := H2
  have HH3 : Hid _ := H3
  clear H1 H2 H3
  go_enter Tryz.func250,Tryz.ntmps250
  go_wp2_with fail
  refine (HH1.out _).mono ?_
  rintro e w1 ⟨rfl,rfl⟩
  go_wp2_with fail
  refine (HH2.out _).mono ?_
  rintro e w1 ⟨rfl,rfl⟩
  go_wp2_with fail
  refine (HH3.out _).mono ?_
  rintro e w2 ⟨rfl,hb2⟩
  have hc2 := fun o => hb2.cell (p := ⟨w.heap.size,o,none⟩) (by simp)
  have hf2 := fun o => hb2.frozen (p := ⟨w.heap.size,o,none⟩) (by simp)
  have hB : Below w.heap.size w w2 := ((Below.refl _ _).alloc (Nat.le_refl _) _).trans (hb2.mono (by simp))
  go_wp2
  exact bodyPost_ret (v := recV 0 0 ⟨#[]⟩) (by simp [results,Tryz.results250,go_sem,hc2]) rfl ⟨rfl,((hB.setCell (by simp) _).setCell (by simp) _).setCell (by simp) _⟩
theorem errOf_bad {c : Nat} (h : c ≠ 0) : errOf c = fault c := by rw [errOf,if_neg h]
abbrev recOut (k t : Int) (d : ByteArray) (c : Int) : Value := .agg #[.int .i64 k,.int .i64 t,.string d,.int .i64 c]
set_option maxHeartbeats 1000000 in
theorem recRead_code (s : ByteArray) (c : Nat) (w : World) (hc : c ≠ 0)
    (H : ∀ w,Calls Tryz.prog 249 #[.string s] w fun e w' => e = .returned (textOut ⟨#[]⟩ 0 c) ∧ Below w.heap.size w w') :
    Calls Tryz.prog 233 #[.string s] w fun e w' => e = .returned (recOut 0 0 ⟨#[]⟩ c) ∧ Below w.heap.size w w' := by
  have HH : Hid _ := H
  have hcb : ((c : Int) != 0) = true := by rw [bne_iff_ne]; omega
  clear H hc
  go_enter Tryz.func233,Tryz.ntmps233
  go_wp2_with fail
  refine (HH.out _).mono ?_
  rintro e w1 ⟨rfl,hb1⟩
  have hz1 : w.heap.size < w1.heap.size := by have h := hb1.size; simp at h; omega
  have hc1 := fun o => hb1.cell (p := ⟨w.heap.size,o,none⟩) (by simp)
  have hf1 := fun o => hb1.frozen (p := ⟨w.heap.size,o,none⟩) (by simp)
  have hB : Below w.heap.size w w1 := ((Below.refl _ _).alloc (Nat.le_refl _) _).trans (hb1.mono (by simp))
  go_wp2
  exact bodyPost_ret (v := recOut 0 0 ⟨#[]⟩ c) (by simp [results,Tryz.results233,go_sem,hc1,World.cell?_alloc_lt,hz1]) rfl ⟨rfl,(((((hB.setCell (by simp) _).setCell (by simp) _).setCell (by simp) _).setCell (by simp) _).alloc (by simp; omega) _)⟩
end Go.Proofs.YtahccighonddaaaGreatDoor
namespace Go.Proofs.YtahccighonddaaaGreatDoor
open Go.RowKit
set_option maxHeartbeats 1000000 in
theorem recRead_zero (s b : ByteArray) (w : World) (hT : utabs w)
    (H : ∀ w,Calls Tryz.prog 249 #[.string s] w fun e w' => e = .returned (textOut b 0 0) ∧ Below w.heap.size w w')
    (H2 : ∀ w,utabs w → Calls Tryz.prog 250 #[.string b] w fun e w' => e = .returned (recV 0 0 ⟨#[]⟩) ∧ Below w.heap.size w w') :
    Calls Tryz.prog 233 #[.string s] w fun e w' => e = .returned (recOut 0 0 ⟨#[]⟩ 3) ∧ Below w.heap.size w w' := by
  have HH : Hid _ := H
  have HH2 : Hid _ := H2
  have HT : Hid (utabs w) := hT
  clear H H2 hT
  go_enter Tryz.func233,Tryz.ntmps233
  go_wp2_with fail
  refine (HH.out _).mono ?_
  rintro e w1 ⟨rfl,hb1⟩
  have hz1 : w.heap.size < w1.heap.size := by have h := hb1.size; simp at h; omega
  have hc1 := fun o => hb1.cell (p := ⟨w.heap.size,o,none⟩) (by simp)
  have hf1 := fun o => hb1.frozen (p := ⟨w.heap.size,o,none⟩) (by simp)
  have hB : Below w.heap.size w w1 := ((Below.refl _ _).alloc (Nat.le_refl _) _).trans (hb1.mono (by simp))
  have HT1 : Hid (utabs (w1.alloc (.cells #[.string b,.int .i64 0,.int .i64 0] 203))) := utabs_alloc (utabs_below HT.out hB) _
  go_wp2_with fail
  refine (HH2.out _ HT1.out).mono ?_
  rintro e w2 ⟨rfl,hb2⟩
  have hz2 : w1.heap.size < w2.heap.size := by have h := hb2.size; simp at h; omega
  have hc2 := fun o => hb2.cell (p := ⟨w.heap.size,o,none⟩) (by simp; omega)
  have hf2 := fun o => hb2.frozen (p := ⟨w.heap.size,o,none⟩) (by simp; omega)
  have hz3 : w.heap.size < w2.heap.size := by omega
  have hB2 : Below w.heap.size w w2 := (hB.alloc (by omega) _).trans (hb2.mono (by simp; omega))
  go_wp2
  exact bodyPost_ret (v := recOut 0 0 ⟨#[]⟩ 3) (by simp [results,Tryz.results233,go_sem,hc1,hc2,World.cell?_alloc_lt,hz1,hz3]) rfl ⟨rfl,(((((hB2.setCell (by simp) _).setCell (by simp) _).setCell (by simp) _).setCell (by simp) _).alloc (by simp; omega) _)⟩
set_option maxHeartbeats 1000000 in
theorem recRead_some (s b d : ByteArray) (k t : Int) (w : World) (hT : utabs w) (hk : k ≠ 0)
    (H : ∀ w,Calls Tryz.prog 249 #[.string s] w fun e w' => e = .returned (textOut b 0 0) ∧ Below w.heap.size w w')
    (H2 : ∀ w,utabs w → Calls Tryz.prog 250 #[.string b] w fun e w' => e = .returned (recV k t d) ∧ Below w.heap.size w w') :
    Calls Tryz.prog 233 #[.string s] w fun e w' => e = .returned (recOut k t d 0) ∧ Below w.heap.size w w' := by
  have HH : Hid _ := H
  have HH2 : Hid _ := H2
  have HT : Hid (utabs w) := hT
  have hkb : (k == 0) = false := by rw [beq_eq_false_iff_ne]; exact hk
  clear H H2 hT hk
  go_enter Tryz.func233,Tryz.ntmps233
  go_wp2_with fail
  refine (HH.out _).mono ?_
  rintro e w1 ⟨rfl,hb1⟩
  have hz1 : w.heap.size < w1.heap.size := by have h := hb1.size; simp at h; omega
  have hc1 := fun o => hb1.cell (p := ⟨w.heap.size,o,none⟩) (by simp)
  have hf1 := fun o => hb1.frozen (p := ⟨w.heap.size,o,none⟩) (by simp)
  have hB : Below w.heap.size w w1 := ((Below.refl _ _).alloc (Nat.le_refl _) _).trans (hb1.mono (by simp))
  have HT1 : Hid (utabs (w1.alloc (.cells #[.string b,.int .i64 0,.int .i64 0] 203))) := utabs_alloc (utabs_below HT.out hB) _
  go_wp2_with fail
  refine (HH2.out _ HT1.out).mono ?_
  rintro e w2 ⟨rfl,hb2⟩
  have hz2 : w1.heap.size < w2.heap.size := by have h := hb2.size; simp at h; omega
  have hc2 := fun o => hb2.cell (p := ⟨w.heap.size,o,none⟩) (by simp; omega)
  have hf2 := fun o => hb2.frozen (p := ⟨w.heap.size,o,none⟩) (by simp; omega)
  have hz3 : w.heap.size < w2.heap.size := by omega
  have hB2 : Below w.heap.size w w2 := (hB.alloc (by omega) _).trans (hb2.mono (by simp; omega))
  go_wp2
  exact bodyPost_ret (v := recOut k t d 0) (by simp [results,Tryz.results233,go_sem,hc1,hc2,World.cell?_alloc_lt,hz1,hz3]) rfl ⟨rfl,(((((hB2.setCell (by simp) _).setCell (by simp) _).setCell (by simp) _).setCell (by simp) _).alloc (by simp; omega) _)⟩
def readRes (s : ByteArray) : Int × Int × ByteArray × Nat :=
  if 8000 < s.size then (0,0,⟨#[]⟩,2) else if s.size < 4 then (0,0,⟨#[]⟩,4) else if sealedB s = false then (0,0,⟨#[]⟩,5)
    else let r := recOfRes (s.extract 0 (s.size - 4))
      if r.1 = 0 then (0,0,⟨#[]⟩,3) else (r.1,r.2.1,r.2.2,0)
abbrev recOutV (r : Int × Int × ByteArray × Nat) : Value := recOut r.1 r.2.1 r.2.2.1 (r.2.2.2 : Int)
theorem recOfRes_cases (b : ByteArray) : recOfRes b = (0,0,⟨#[]⟩) ∨ (∃ k t d,recOfRes b = (k,t,d) ∧ recRightB k t d = true ∧ k ≠ 0) := by
  by_cases h : recOfRes b = (0,0,⟨#[]⟩)
  · exact .inl h
  · right
    unfold recOfRes at h ⊢
    simp only at h ⊢
    split at h
    · exact absurd rfl h
    · rename_i h1
      rw [if_neg h1]
      split at h
      · exact absurd rfl h
      · rename_i h2
        rw [if_neg h2]
        split at h
        · exact absurd rfl h
        · rename_i h3
          rw [if_neg h3]
          split at h
          · rename_i h4
            rw [if_pos h4]
            refine ⟨_,_,_,rfl,h4.2,?_⟩
            have := (right_iff.1 h4.2).1
            omega
          · exact absurd rfl h
end Go.Proofs.YtahccighonddaaaGreatDoor
namespace Go.Proofs.YtahccighonddaaaGreatDoor
open Go.RowKit
set_option linter.unusedVariables false
theorem spec_recBytes (k t : Int) (d : ByteArray) (w : World) (hm : d.size ≤ maxLen) :
    Calls Tryz.prog 171 #[recV k t d] w fun e w' => e = .returned (.string ⟨(recBytes k t d).toArray⟩) ∧ Below w.heap.size w w' := by
  have HR : Hid _ := fun w => spec_recRight k t d w hm
  clear hm
  unfold recBytes
  cases hR : recRightB k t d
  · rw [hR] at HR
    go_enter Tryz.func171,Tryz.ntmps171
    go_wp2_with (first | (go_at_call 211; refine (HR.out _).mono ?_; rintro e w1 ⟨rfl,hb1⟩))
    go_ret
    exact ⟨rfl,((Below.refl _ _).alloc (Nat.le_refl _) _).trans (hb1.mono (by simp))⟩
  · have HL : Hid _ := fun w => spec_l02Bytes k t d w hR
    rw [hR] at HR
    clear hR
    go_enter Tryz.func171,Tryz.ntmps171
    go_wp2_with fail
    refine (HR.out _).mono ?_
    rintro e w1 ⟨rfl,hb1⟩
    have hc1 := fun o => hb1.cell (p := ⟨w.heap.size,o,none⟩) (by simp)
    have hB : Below w.heap.size w w1 := ((Below.refl _ _).alloc (Nat.le_refl _) _).trans (hb1.mono (by simp))
    go_wp2_with fail
    refine (HL.out _).mono ?_
    rintro e w2 ⟨rfl,hb2⟩
    go_wp2
    go_ret
    exact ⟨rfl,hB.trans (hb2.mono hB.size)⟩
set_option maxHeartbeats 1000000 in
theorem spec_read_code (s : ByteArray) (c : Nat) (w : World) (hc : c ≠ 0)
    (H : ∀ w,Calls Tryz.prog 168 #[.string s] w fun e w' => e = .returned (textOut ⟨#[]⟩ 0 c) ∧ Below w.heap.size w w') :
    Calls Tryz.prog 114 #[.string s] w fun e w' => e = .returned (recOut 0 0 ⟨#[]⟩ c) ∧ Below w.heap.size w w' := by
  have HH : Hid _ := H
  have hcb : ((c : Int) != 0) = true := by rw [bne_iff_ne]; omega
  clear H hc
  go_enter Tryz.func114,Tryz.ntmps114
  go_wp2_with fail
  refine (HH.out _).mono ?_
  rintro e w1 ⟨rfl,hb1⟩
  have hz1 : w.heap.size < w1.heap.size := by have h := hb1.size; simp at h; omega
  have hc1 := fun o => hb1.cell (p := ⟨w.heap.size,o,none⟩) (by simp)
  have hf1 := fun o => hb1.frozen (p := ⟨w.heap.size,o,none⟩) (by simp)
  have hB : Below w.heap.size w w1 := ((Below.refl _ _).alloc (Nat.le_refl _) _).trans (hb1.mono (by simp))
  go_wp2
  exact bodyPost_ret (v := recOut 0 0 ⟨#[]⟩ c) (by simp [results,Tryz.results114,go_sem,hc1,World.cell?_alloc_lt,hz1]) rfl ⟨rfl,(((((hB.setCell (by simp) _).setCell (by simp) _).setCell (by simp) _).setCell (by simp) _).alloc (by simp; omega) _)⟩
set_option maxHeartbeats 4000000 in
theorem spec_read_1 (s b d : ByteArray) (B : List UInt8) (k n a1 a2 a3 : Int) (c1 c2 c3 : Nat) (w : World) (hc : c1 ≠ 0)
    (H0 : ∀ w,Calls Tryz.prog 168 #[.string s] w fun e w' => e = .returned (textOut b 0 0) ∧ Below w.heap.size w w')
    (H1 : ∀ w,Calls Tryz.prog 169 #[.string b,.int .i64 0] w fun e w' => e = .returned (.agg #[.int .i64 k,.int .i64 a1,.int .i64 c1]) ∧ Below w.heap.size w w')
    (H2 : ∀ w,Calls Tryz.prog 169 #[.string b,.int .i64 a1] w fun e w' => e = .returned (.agg #[.int .i64 n,.int .i64 a2,.int .i64 c2]) ∧ Below w.heap.size w w')
    (H3 : ∀ w,Calls Tryz.prog 170 #[.string b,.int .i64 a2] w fun e w' => e = .returned (textOut d a3 c3) ∧ Below w.heap.size w w')
    (H4 : ∀ w,Calls Tryz.prog 171 #[recV k n d] w fun e w' => e = .returned (.string ⟨B.toArray⟩) ∧ Below w.heap.size w w') :
    Calls Tryz.prog 114 #[.string s] w fun e w' => e = .returned (recOut 0 0 ⟨#[]⟩ 3) ∧ Below w.heap.size w w' := by
  have HH0 : Hid _ := H0
  have HH1 : Hid _ := H1
  have HH2 : Hid _ := H2
  have HH3 : Hid _ := H3
  have HH4 : Hid _ := H4
  clear H0 H1 H2 H3 H4
  have hcb : ((c1 : Int) != 0) = true := by rw [bne_iff_ne]; omega
  clear hc
  go_enter Tryz.func114,Tryz.ntmps114
  go_wp2_with fail
  refine (HH0.out _).mono ?_
  rintro e w1 ⟨rfl,hb1⟩
  have hz1 : w.heap.size < w1.heap.size := by have h := hb1.size; simp at h; omega
  have hc1 := fun o => hb1.cell (p := ⟨w.heap.size,o,none⟩) (by simp)
  have hf1 := fun o => hb1.frozen (p := ⟨w.heap.size,o,none⟩) (by simp)
  have hB1 : Hid (Below w.heap.size w w1) := ((Below.refl _ _).alloc (Nat.le_refl _) _).trans (hb1.mono (by simp))
  clear hb1
  go_wp2_with fail
  refine (HH1.out _).mono ?_
  rintro e w2 ⟨rfl,hb2⟩
  have hz2 : w1.heap.size < w2.heap.size := by have h := hb2.size; simp at h; omega
  have hz2' : w.heap.size < w2.heap.size := by omega
  have hc2 := fun o => hb2.cell (p := ⟨w.heap.size,o,none⟩) (by simp; omega)
  have hf2 := fun o => hb2.frozen (p := ⟨w.heap.size,o,none⟩) (by simp; omega)
  have hd2 := fun o => hb2.cell (p := ⟨w1.heap.size,o,none⟩) (by simp)
  have hB2 : Hid (Below w.heap.size w w2) := (hB1.out.alloc (by omega) _).trans (hb2.mono (by simp; omega))
  clear hb2
  go_wp2_with fail
  refine (HH2.out _).mono ?_
  rintro e w3 ⟨rfl,hb3⟩
  have hz3 : w2.heap.size < w3.heap.size := by have h := hb3.size; simp at h; omega
  have hz3' : w1.heap.size < w3.heap.size := by omega
  have hz3'' : w.heap.size < w3.heap.size := by omega
  have hc3 := fun o => hb3.cell (p := ⟨w.heap.size,o,none⟩) (by simp; omega)
  have hf3 := fun o => hb3.frozen (p := ⟨w.heap.size,o,none⟩) (by simp; omega)
  have hd3 := fun o => hb3.cell (p := ⟨w1.heap.size,o,none⟩) (by simp; omega)
  have he3 := fun o => hb3.cell (p := ⟨w2.heap.size,o,none⟩) (by simp)
  have hB3 : Hid (Below w.heap.size w w3) := (hB2.out.alloc (by omega) _).trans (hb3.mono (by simp; omega))
  clear hb3
  go_wp2_with fail
  refine (HH3.out _).mono ?_
  rintro e w4 ⟨rfl,hb4⟩
  have hz4 : w3.heap.size < w4.heap.size := by have h := hb4.size; simp at h; omega
  have hz4' : w2.heap.size < w4.heap.size := by omega
  have hz4'' : w.heap.size < w4.heap.size := by omega
  have hc4 := fun o => hb4.cell (p := ⟨w.heap.size,o,none⟩) (by simp; omega)
  have hf4 := fun o => hb4.frozen (p := ⟨w.heap.size,o,none⟩) (by simp; omega)
  have he4 := fun o => hb4.cell (p := ⟨w2.heap.size,o,none⟩) (by simp; omega)
  have hg4 := fun o => hb4.cell (p := ⟨w3.heap.size,o,none⟩) (by simp)
  have hB4 : Hid (Below w.heap.size w w4) := (hB3.out.alloc (by omega) _).trans (hb4.mono (by simp; omega))
  clear hb4
  go_wp2
  exact bodyPost_ret (v := recOut 0 0 ⟨#[]⟩ 3) (by simp [results,Tryz.results114,go_sem,hc1,hc2,hc3,hc4,World.cell?_alloc_lt,hz1,hz2',hz3'',hz4'']) rfl ⟨rfl,((((((hB4.out.setCell (by simp) _).setCell (by simp) _).setCell (by simp) _).setCell (by simp) _).alloc (by simp; omega) _).alloc (by simp; omega) _)⟩
set_option maxHeartbeats 4000000 in
theorem spec_read_2 (s b d : ByteArray) (B : List UInt8) (k n a1 a2 a3 : Int) (c1 c2 c3 : Nat) (w : World) (hc : c2 ≠ 0)
    (H0 : ∀ w,Calls Tryz.prog 168 #[.string s] w fun e w' => e = .returned (textOut b 0 0) ∧ Below w.heap.size w w')
    (H1 : ∀ w,Calls Tryz.prog 169 #[.string b,.int .i64 0] w fun e w' => e = .returned (.agg #[.int .i64 k,.int .i64 a1,.int .i64 0]) ∧ Below w.heap.size w w')
    (H2 : ∀ w,Calls Tryz.prog 169 #[.string b,.int .i64 a1] w fun e w' => e = .returned (.agg #[.int .i64 n,.int .i64 a2,.int .i64 c2]) ∧ Below w.heap.size w w')
    (H3 : ∀ w,Calls Tryz.prog 170 #[.string b,.int .i64 a2] w fun e w' => e = .returned (textOut d a3 c3) ∧ Below w.heap.size w w')
    (H4 : ∀ w,Calls Tryz.prog 171 #[recV k n d] w fun e w' => e = .returned (.string ⟨B.toArray⟩) ∧ Below w.heap.size w w') :
    Calls Tryz.prog 114 #[.string s] w fun e w' => e = .returned (recOut 0 0 ⟨#[]⟩ 3) ∧ Below w.heap.size w w' := by
  have HH0 : Hid _ := H0
  have HH1 : Hid _ := H1
  have HH2 : Hid _ := H2
  have HH3 : Hid _ := H3
  have HH4 : Hid _ := H4
  clear H0 H1 H2 H3 H4
  have hcb : ((c2 : Int) != 0) = true := by rw [bne_iff_ne]; omega
  clear hc
  go_enter Tryz.func114,Tryz.ntmps114
  go_wp2_with fail
  refine (HH0.out _).mono ?_
  rintro e w1 ⟨rfl,hb1⟩
  have hz1 : w.heap.size < w1.heap.size := by have h := hb1.size; simp at h; omega
  have hc1 := fun o => hb1.cell (p := ⟨w.heap.size,o,none⟩) (by simp)
  have hf1 := fun o => hb1.frozen (p := ⟨w.heap.size,o,none⟩) (by simp)
  have hB1 : Hid (Below w.heap.size w w1) := ((Below.refl _ _).alloc (Nat.le_refl _) _).trans (hb1.mono (by simp))
  clear hb1
  go_wp2_with fail
  refine (HH1.out _).mono ?_
  rintro e w2 ⟨rfl,hb2⟩
  have hz2 : w1.heap.size < w2.heap.size := by have h := hb2.size; simp at h; omega
  have hz2' : w.heap.size < w2.heap.size := by omega
  have hc2 := fun o => hb2.cell (p := ⟨w.heap.size,o,none⟩) (by simp; omega)
  have hf2 := fun o => hb2.frozen (p := ⟨w.heap.size,o,none⟩) (by simp; omega)
  have hd2 := fun o => hb2.cell (p := ⟨w1.heap.size,o,none⟩) (by simp)
  have hB2 : Hid (Below w.heap.size w w2) := (hB1.out.alloc (by omega) _).trans (hb2.mono (by simp; omega))
  clear hb2
  go_wp2_with fail
  refine (HH2.out _).mono ?_
  rintro e w3 ⟨rfl,hb3⟩
  have hz3 : w2.heap.size < w3.heap.size := by have h := hb3.size; simp at h; omega
  have hz3' : w1.heap.size < w3.heap.size := by omega
  have hz3'' : w.heap.size < w3.heap.size := by omega
  have hc3 := fun o => hb3.cell (p := ⟨w.heap.size,o,none⟩) (by simp; omega)
  have hf3 := fun o => hb3.frozen (p := ⟨w.heap.size,o,none⟩) (by simp; omega)
  have hd3 := fun o => hb3.cell (p := ⟨w1.heap.size,o,none⟩) (by simp; omega)
  have he3 := fun o => hb3.cell (p := ⟨w2.heap.size,o,none⟩) (by simp)
  have hB3 : Hid (Below w.heap.size w w3) := (hB2.out.alloc (by omega) _).trans (hb3.mono (by simp; omega))
  clear hb3
  go_wp2_with fail
  refine (HH3.out _).mono ?_
  rintro e w4 ⟨rfl,hb4⟩
  have hz4 : w3.heap.size < w4.heap.size := by have h := hb4.size; simp at h; omega
  have hz4' : w2.heap.size < w4.heap.size := by omega
  have hz4'' : w.heap.size < w4.heap.size := by omega
  have hc4 := fun o => hb4.cell (p := ⟨w.heap.size,o,none⟩) (by simp; omega)
  have hf4 := fun o => hb4.frozen (p := ⟨w.heap.size,o,none⟩) (by simp; omega)
  have he4 := fun o => hb4.cell (p := ⟨w2.heap.size,o,none⟩) (by simp; omega)
  have hg4 := fun o => hb4.cell (p := ⟨w3.heap.size,o,none⟩) (by simp)
  have hB4 : Hid (Below w.heap.size w w4) := (hB3.out.alloc (by omega) _).trans (hb4.mono (by simp; omega))
  clear hb4
  go_wp2
  exact bodyPost_ret (v := recOut 0 0 ⟨#[]⟩ 3) (by simp [results,Tryz.results114,go_sem,hc1,hc2,hc3,hc4,World.cell?_alloc_lt,hz1,hz2',hz3'',hz4'']) rfl ⟨rfl,((((((hB4.out.setCell (by simp) _).setCell (by simp) _).setCell (by simp) _).setCell (by simp) _).alloc (by simp; omega) _).alloc (by simp; omega) _)⟩
set_option maxHeartbeats 4000000 in
theorem spec_read_3 (s b d : ByteArray) (B : List UInt8) (k n a1 a2 a3 : Int) (c1 c2 c3 : Nat) (w : World) (hc : c3 ≠ 0)
    (H0 : ∀ w,Calls Tryz.prog 168 #[.string s] w fun e w' => e = .returned (textOut b 0 0) ∧ Below w.heap.size w w')
    (H1 : ∀ w,Calls Tryz.prog 169 #[.string b,.int .i64 0] w fun e w' => e = .returned (.agg #[.int .i64 k,.int .i64 a1,.int .i64 0]) ∧ Below w.heap.size w w')
    (H2 : ∀ w,Calls Tryz.prog 169 #[.string b,.int .i64 a1] w fun e w' => e = .returned (.agg #[.int .i64 n,.int .i64 a2,.int .i64 0]) ∧ Below w.heap.size w w')
    (H3 : ∀ w,Calls Tryz.prog 170 #[.string b,.int .i64 a2] w fun e w' => e = .returned (textOut d a3 c3) ∧ Below w.heap.size w w')
    (H4 : ∀ w,Calls Tryz.prog 171 #[recV k n d] w fun e w' => e = .returned (.string ⟨B.toArray⟩) ∧ Below w.heap.size w w') :
    Calls Tryz.prog 114 #[.string s] w fun e w' => e = .returned (recOut 0 0 ⟨#[]⟩ 3) ∧ Below w.heap.size w w' := by
  have HH0 : Hid _ := H0
  have HH1 : Hid _ := H1
  have HH2 : Hid _ := H2
  have HH3 : Hid _ := H3
  have HH4 : Hid _ := H4
  clear H0 H1 H2 H3 H4
  have hcb : ((c3 : Int) != 0) = true := by rw [bne_iff_ne]; omega
  clear hc
  go_enter Tryz.func114,Tryz.ntmps114
  go_wp2_with fail
  refine (HH0.out _).mono ?_
  rintro e w1 ⟨rfl,hb1⟩
  have hz1 : w.heap.size < w1.heap.size := by have h := hb1.size; simp at h; omega
  have hc1 := fun o => hb1.cell (p := ⟨w.heap.size,o,none⟩) (by simp)
  have hf1 := fun o => hb1.frozen (p := ⟨w.heap.size,o,none⟩) (by simp)
  have hB1 : Hid (Below w.heap.size w w1) := ((Below.refl _ _).alloc (Nat.le_refl _) _).trans (hb1.mono (by simp))
  clear hb1
  go_wp2_with fail
  refine (HH1.out _).mono ?_
  rintro e w2 ⟨rfl,hb2⟩
  have hz2 : w1.heap.size < w2.heap.size := by have h := hb2.size; simp at h; omega
  have hz2' : w.heap.size < w2.heap.size := by omega
  have hc2 := fun o => hb2.cell (p := ⟨w.heap.size,o,none⟩) (by simp; omega)
  have hf2 := fun o => hb2.frozen (p := ⟨w.heap.size,o,none⟩) (by simp; omega)
  have hd2 := fun o => hb2.cell (p := ⟨w1.heap.size,o,none⟩) (by simp)
  have hB2 : Hid (Below w.heap.size w w2) := (hB1.out.alloc (by omega) _).trans (hb2.mono (by simp; omega))
  clear hb2
  go_wp2_with fail
  refine (HH2.out _).mono ?_
  rintro e w3 ⟨rfl,hb3⟩
  have hz3 : w2.heap.size < w3.heap.size := by have h := hb3.size; simp at h; omega
  have hz3' : w1.heap.size < w3.heap.size := by omega
  have hz3'' : w.heap.size < w3.heap.size := by omega
  have hc3 := fun o => hb3.cell (p := ⟨w.heap.size,o,none⟩) (by simp; omega)
  have hf3 := fun o => hb3.frozen (p := ⟨w.heap.size,o,none⟩) (by simp; omega)
  have hd3 := fun o => hb3.cell (p := ⟨w1.heap.size,o,none⟩) (by simp; omega)
  have he3 := fun o => hb3.cell (p := ⟨w2.heap.size,o,none⟩) (by simp)
  have hB3 : Hid (Below w.heap.size w w3) := (hB2.out.alloc (by omega) _).trans (hb3.mono (by simp; omega))
  clear hb3
  go_wp2_with fail
  refine (HH3.out _).mono ?_
  rintro e w4 ⟨rfl,hb4⟩
  have hz4 : w3.heap.size < w4.heap.size := by have h := hb4.size; simp at h; omega
  have hz4' : w2.heap.size < w4.heap.size := by omega
  have hz4'' : w.heap.size < w4.heap.size := by omega
  have hc4 := fun o => hb4.cell (p := ⟨w.heap.size,o,none⟩) (by simp; omega)
  have hf4 := fun o => hb4.frozen (p := ⟨w.heap.size,o,none⟩) (by simp; omega)
  have he4 := fun o => hb4.cell (p := ⟨w2.heap.size,o,none⟩) (by simp; omega)
  have hg4 := fun o => hb4.cell (p := ⟨w3.heap.size,o,none⟩) (by simp)
  have hB4 : Hid (Below w.heap.size w w4) := (hB3.out.alloc (by omega) _).trans (hb4.mono (by simp; omega))
  clear hb4
  go_wp2
  exact bodyPost_ret (v := recOut 0 0 ⟨#[]⟩ 3) (by simp [results,Tryz.results114,go_sem,hc1,hc2,hc3,hc4,World.cell?_alloc_lt,hz1,hz2',hz3'',hz4'']) rfl ⟨rfl,((((((hB4.out.setCell (by simp) _).setCell (by simp) _).setCell (by simp) _).setCell (by simp) _).alloc (by simp; omega) _).alloc (by simp; omega) _)⟩
set_option maxHeartbeats 4000000 in
theorem spec_read_4 (s b d : ByteArray) (B : List UInt8) (k n a1 a2 a3 : Int) (c1 c2 c3 : Nat) (w : World) (hs : s.size ≤ 8000) (hc : (B == s.toList) = false)
    (H0 : ∀ w,Calls Tryz.prog 168 #[.string s] w fun e w' => e = .returned (textOut b 0 0) ∧ Below w.heap.size w w')
    (H1 : ∀ w,Calls Tryz.prog 169 #[.string b,.int .i64 0] w fun e w' => e = .returned (.agg #[.int .i64 k,.int .i64 a1,.int .i64 0]) ∧ Below w.heap.size w w')
    (H2 : ∀ w,Calls Tryz.prog 169 #[.string b,.int .i64 a1] w fun e w' => e = .returned (.agg #[.int .i64 n,.int .i64 a2,.int .i64 0]) ∧ Below w.heap.size w w')
    (H3 : ∀ w,Calls Tryz.prog 170 #[.string b,.int .i64 a2] w fun e w' => e = .returned (textOut d a3 0) ∧ Below w.heap.size w w')
    (H4 : ∀ w,Calls Tryz.prog 171 #[recV k n d] w fun e w' => e = .returned (.string ⟨B.toArray⟩) ∧ Below w.heap.size w w') :
    Calls Tryz.prog 114 #[.string s] w fun e w' => e = .returned (recOut 0 0 ⟨#[]⟩ 3) ∧ Below w.heap.size w w' := by
  have HH0 : Hid _ := H0
  have HH1 : Hid _ := H1
  have HH2 : Hid _ := H2
  have HH3 : Hid _ := H3
  have HH4 : Hid _ := H4
  clear H0 H1 H2 H3 H4
  go_enter Tryz.func114,Tryz.ntmps114
  go_wp2_with fail
  refine (HH0.out _).mono ?_
  rintro e w1 ⟨rfl,hb1⟩
  have hz1 : w.heap.size < w1.heap.size := by have h := hb1.size; simp at h; omega
  have hc1 := fun o => hb1.cell (p := ⟨w.heap.size,o,none⟩) (by simp)
  have hf1 := fun o => hb1.frozen (p := ⟨w.heap.size,o,none⟩) (by simp)
  have hB1 : Hid (Below w.heap.size w w1) := ((Below.refl _ _).alloc (Nat.le_refl _) _).trans (hb1.mono (by simp))
  clear hb1
  go_wp2_with fail
  refine (HH1.out _).mono ?_
  rintro e w2 ⟨rfl,hb2⟩
  have hz2 : w1.heap.size < w2.heap.size := by have h := hb2.size; simp at h; omega
  have hz2' : w.heap.size < w2.heap.size := by omega
  have hc2 := fun o => hb2.cell (p := ⟨w.heap.size,o,none⟩) (by simp; omega)
  have hf2 := fun o => hb2.frozen (p := ⟨w.heap.size,o,none⟩) (by simp; omega)
  have hd2 := fun o => hb2.cell (p := ⟨w1.heap.size,o,none⟩) (by simp)
  have hB2 : Hid (Below w.heap.size w w2) := (hB1.out.alloc (by omega) _).trans (hb2.mono (by simp; omega))
  clear hb2
  go_wp2_with fail
  refine (HH2.out _).mono ?_
  rintro e w3 ⟨rfl,hb3⟩
  have hz3 : w2.heap.size < w3.heap.size := by have h := hb3.size; simp at h; omega
  have hz3' : w1.heap.size < w3.heap.size := by omega
  have hz3'' : w.heap.size < w3.heap.size := by omega
  have hc3 := fun o => hb3.cell (p := ⟨w.heap.size,o,none⟩) (by simp; omega)
  have hf3 := fun o => hb3.frozen (p := ⟨w.heap.size,o,none⟩) (by simp; omega)
  have hd3 := fun o => hb3.cell (p := ⟨w1.heap.size,o,none⟩) (by simp; omega)
  have he3 := fun o => hb3.cell (p := ⟨w2.heap.size,o,none⟩) (by simp)
  have hB3 : Hid (Below w.heap.size w w3) := (hB2.out.alloc (by omega) _).trans (hb3.mono (by simp; omega))
  clear hb3
  go_wp2_with fail
  refine (HH3.out _).mono ?_
  rintro e w4 ⟨rfl,hb4⟩
  have hz4 : w3.heap.size < w4.heap.size := by have h := hb4.size; simp at h; omega
  have hz4' : w2.heap.size < w4.heap.size := by omega
  have hz4'' : w.heap.size < w4.heap.size := by omega
  have hc4 := fun o => hb4.cell (p := ⟨w.heap.size,o,none⟩) (by simp; omega)
  have hf4 := fun o => hb4.frozen (p := ⟨w.heap.size,o,none⟩) (by simp; omega)
  have he4 := fun o => hb4.cell (p := ⟨w2.heap.size,o,none⟩) (by simp; omega)
  have hg4 := fun o => hb4.cell (p := ⟨w3.heap.size,o,none⟩) (by simp)
  have hB4 : Hid (Below w.heap.size w w4) := (hB3.out.alloc (by omega) _).trans (hb4.mono (by simp; omega))
  clear hb4
  go_wp2_with fail
  refine (HH4.out _).mono ?_
  rintro e w5 ⟨rfl,hb5⟩
  have hz5 : w4.heap.size + 1 < w5.heap.size := by have h := hb5.size; simp at h; omega
  have hz5' : w.heap.size < w5.heap.size := by omega
  have hc5 := fun o => hb5.cell (p := ⟨w.heap.size,o,none⟩) (by simp; omega)
  have hf5 := fun o => hb5.frozen (p := ⟨w.heap.size,o,none⟩) (by simp; omega)
  have hr5 := fun o => hb5.cell (p := ⟨w4.heap.size + 1,o,none⟩) (by simp)
  have hB5 : Hid (Below w.heap.size w w5) := ((hB4.out.alloc (by omega) _).alloc (by simp; omega) _).trans (hb5.mono (by simp; omega))
  clear hb5
  go_wp2
  exact bodyPost_ret (v := recOut 0 0 ⟨#[]⟩ 3) (by simp [results,Tryz.results114,go_sem,hc1,hc2,hc3,hc4,hc5,World.cell?_alloc_lt,hz1,hz2',hz3'',hz4'',(show w.heap.size < w4.heap.size + 1 by omega)]) rfl ⟨rfl,(((hB5.out.setCell (by simp) _).setCell (by simp) _).setCell (by simp) _).setCell (by simp) _⟩
set_option maxHeartbeats 4000000 in
theorem spec_read_5 (s b d : ByteArray) (B : List UInt8) (k n a1 a2 a3 : Int) (c1 c2 c3 : Nat) (w : World) (hs : s.size ≤ 8000) (hc : (B == s.toList) = true)
    (H0 : ∀ w,Calls Tryz.prog 168 #[.string s] w fun e w' => e = .returned (textOut b 0 0) ∧ Below w.heap.size w w')
    (H1 : ∀ w,Calls Tryz.prog 169 #[.string b,.int .i64 0] w fun e w' => e = .returned (.agg #[.int .i64 k,.int .i64 a1,.int .i64 0]) ∧ Below w.heap.size w w')
    (H2 : ∀ w,Calls Tryz.prog 169 #[.string b,.int .i64 a1] w fun e w' => e = .returned (.agg #[.int .i64 n,.int .i64 a2,.int .i64 0]) ∧ Below w.heap.size w w')
    (H3 : ∀ w,Calls Tryz.prog 170 #[.string b,.int .i64 a2] w fun e w' => e = .returned (textOut d a3 0) ∧ Below w.heap.size w w')
    (H4 : ∀ w,Calls Tryz.prog 171 #[recV k n d] w fun e w' => e = .returned (.string ⟨B.toArray⟩) ∧ Below w.heap.size w w') :
    Calls Tryz.prog 114 #[.string s] w fun e w' => e = .returned (recOut k n d 0) ∧ Below w.heap.size w w' := by
  have HH0 : Hid _ := H0
  have HH1 : Hid _ := H1
  have HH2 : Hid _ := H2
  have HH3 : Hid _ := H3
  have HH4 : Hid _ := H4
  clear H0 H1 H2 H3 H4
  go_enter Tryz.func114,Tryz.ntmps114
  go_wp2_with fail
  refine (HH0.out _).mono ?_
  rintro e w1 ⟨rfl,hb1⟩
  have hz1 : w.heap.size < w1.heap.size := by have h := hb1.size; simp at h; omega
  have hc1 := fun o => hb1.cell (p := ⟨w.heap.size,o,none⟩) (by simp)
  have hf1 := fun o => hb1.frozen (p := ⟨w.heap.size,o,none⟩) (by simp)
  have hB1 : Hid (Below w.heap.size w w1) := ((Below.refl _ _).alloc (Nat.le_refl _) _).trans (hb1.mono (by simp))
  clear hb1
  go_wp2_with fail
  refine (HH1.out _).mono ?_
  rintro e w2 ⟨rfl,hb2⟩
  have hz2 : w1.heap.size < w2.heap.size := by have h := hb2.size; simp at h; omega
  have hz2' : w.heap.size < w2.heap.size := by omega
  have hc2 := fun o => hb2.cell (p := ⟨w.heap.size,o,none⟩) (by simp; omega)
  have hf2 := fun o => hb2.frozen (p := ⟨w.heap.size,o,none⟩) (by simp; omega)
  have hd2 := fun o => hb2.cell (p := ⟨w1.heap.size,o,none⟩) (by simp)
  have hB2 : Hid (Below w.heap.size w w2) := (hB1.out.alloc (by omega) _).trans (hb2.mono (by simp; omega))
  clear hb2
  go_wp2_with fail
  refine (HH2.out _).mono ?_
  rintro e w3 ⟨rfl,hb3⟩
  have hz3 : w2.heap.size < w3.heap.size := by have h := hb3.size; simp at h; omega
  have hz3' : w1.heap.size < w3.heap.size := by omega
  have hz3'' : w.heap.size < w3.heap.size := by omega
  have hc3 := fun o => hb3.cell (p := ⟨w.heap.size,o,none⟩) (by simp; omega)
  have hf3 := fun o => hb3.frozen (p := ⟨w.heap.size,o,none⟩) (by simp; omega)
  have hd3 := fun o => hb3.cell (p := ⟨w1.heap.size,o,none⟩) (by simp; omega)
  have he3 := fun o => hb3.cell (p := ⟨w2.heap.size,o,none⟩) (by simp)
  have hB3 : Hid (Below w.heap.size w w3) := (hB2.out.alloc (by omega) _).trans (hb3.mono (by simp; omega))
  clear hb3
  go_wp2_with fail
  refine (HH3.out _).mono ?_
  rintro e w4 ⟨rfl,hb4⟩
  have hz4 : w3.heap.size < w4.heap.size := by have h := hb4.size; simp at h; omega
  have hz4' : w2.heap.size < w4.heap.size := by omega
  have hz4'' : w.heap.size < w4.heap.size := by omega
  have hc4 := fun o => hb4.cell (p := ⟨w.heap.size,o,none⟩) (by simp; omega)
  have hf4 := fun o => hb4.frozen (p := ⟨w.heap.size,o,none⟩) (by simp; omega)
  have he4 := fun o => hb4.cell (p := ⟨w2.heap.size,o,none⟩) (by simp; omega)
  have hg4 := fun o => hb4.cell (p := ⟨w3.heap.size,o,none⟩) (by simp)
  have hB4 : Hid (Below w.heap.size w w4) := (hB3.out.alloc (by omega) _).trans (hb4.mono (by simp; omega))
  clear hb4
  go_wp2_with fail
  refine (HH4.out _).mono ?_
  rintro e w5 ⟨rfl,hb5⟩
  have hz5 : w4.heap.size + 1 < w5.heap.size := by have h := hb5.size; simp at h; omega
  have hz5' : w.heap.size < w5.heap.size := by omega
  have hc5 := fun o => hb5.cell (p := ⟨w.heap.size,o,none⟩) (by simp; omega)
  have hf5 := fun o => hb5.frozen (p := ⟨w.heap.size,o,none⟩) (by simp; omega)
  have hr5 := fun o => hb5.cell (p := ⟨w4.heap.size + 1,o,none⟩) (by simp)
  have hB5 : Hid (Below w.heap.size w w5) := ((hB4.out.alloc (by omega) _).alloc (by simp; omega) _).trans (hb5.mono (by simp; omega))
  clear hb5
  go_wp2
  exact bodyPost_ret (v := recOut k n d 0) (by simp [results,Tryz.results114,go_sem,hc1,hc2,hc3,hc4,hc5,World.cell?_alloc_lt,hz1,hz2',hz3'',hz4'',(show w.heap.size < w4.heap.size + 1 by omega)]) rfl ⟨rfl,(((hB5.out.setCell (by simp) _).setCell (by simp) _).setCell (by simp) _).setCell (by simp) _⟩
end Go.Proofs.YtahccighonddaaaGreatDoor
namespace Go.Proofs.YtahccighonddaaaGreatDoor
open Go.RowKit
theorem readRes_seal {s : ByteArray} (h4 : 4 ≤ s.size) (hs : s.size ≤ 8000) (hq : sealedB s = true) {r : Int × Int × ByteArray} (h : recOfRes (s.extract 0 (s.size - 4)) = r) : readRes s = if r.1 = 0 then (0,0,⟨#[]⟩,3) else (r.1,r.2.1,r.2.2,0) := by
  unfold readRes
  rw [if_neg (by omega),if_neg (by omega),if_neg (by simp [hq]),h]
theorem spec_recRead (s : ByteArray) (w : World) (hm : s.size ≤ maxLen) :
    Calls Tryz.prog 114 #[.string s] w fun e w' => e = .returned (recOutV (readRes s)) ∧ Below w.heap.size w w' := by
  by_cases h1 : 8000 < s.size
  · have e : readRes s = (0,0,⟨#[]⟩,2) := by unfold readRes; rw [if_pos h1]
    rw [e]
    exact spec_read_code s 2 w (by omega) (fun w => spec_unseal_size s w hm h1)
  by_cases h2 : s.size < 4
  · have e : readRes s = (0,0,⟨#[]⟩,4) := by unfold readRes; rw [if_neg h1,if_pos h2]
    rw [e]
    exact spec_read_code s 4 w (by omega) (fun w => spec_unseal_short s w h2)
  cases h3 : sealedB s
  · have e : readRes s = (0,0,⟨#[]⟩,5) := by unfold readRes; rw [if_neg h1,if_neg h2,if_pos h3]
    rw [e]
    exact spec_read_code s 5 w (by omega) (fun w => spec_unseal_bad s w (by omega) (by omega) h3)
  have HU := fun w => spec_unseal_good s w (by omega) (by omega) h3
  have hres := fun r h => readRes_seal (s := s) (by omega) (by omega) h3 (r := r) h
  obtain ⟨b,hb⟩ : ∃ b,s.extract 0 (s.size - 4) = b := ⟨_,rfl⟩
  rw [hb] at HU hres
  have hbs : b.size ≤ 8000 := by rw [← hb]; simp; omega
  have hbm : b.size ≤ maxLen := by unfold maxLen; omega
  have H1 := fun w => spec_getNum b 0 w hbm
  have H2 := fun a w => spec_getNum b a w hbm
  have H3 := fun a w => spec_getText b a w hbm
  have hdm : ∀ a,(textRes b a).1.size ≤ maxLen := fun a => by
    unfold maxLen
    rcases text_cases b a with ⟨c,hc,e⟩ | ⟨N,q',e,hq,hs,hN⟩ | ⟨N,q',e,hq,hs,hN,hlt⟩ | ⟨N,q',e,hq,hs,hN,hlt⟩
    · rw [textRes_bad e hc]; exact Nat.zero_le _
    · rw [textRes_len e hN]; exact Nat.zero_le _
    · rw [textRes_short e hN hlt]; exact Nat.zero_le _
    · rw [textRes_good e hN hlt]; simp; omega
  rcases numRes_cases b 0 with ⟨c,hc,e1⟩ | ⟨k,p,e1,hp,_⟩
  · rw [hres _ (recOfRes_1 e1 hc),if_pos rfl]
    rw [e1] at H1
    exact spec_read_1 s b _ _ 0 _ 0 _ _ c _ _ w hc HU H1 (H2 0) (H3 _) (fun w => spec_recBytes 0 _ _ w (hdm _))
  rw [e1] at H1
  rcases numRes_cases b p with ⟨c,hc,e2⟩ | ⟨t,q,e2,hq,_⟩
  · rw [hres _ (recOfRes_2 e1 e2 hc),if_pos rfl]
    have H2' := H2 p
    rw [e2] at H2'
    exact spec_read_2 s b _ _ k 0 p 0 _ 0 c _ w hc HU H1 H2' (H3 _) (fun w => spec_recBytes k _ _ w (hdm _))
  have H2' := H2 p
  rw [e2] at H2'
  have H3' := H3 q
  have hdm' := hdm q
  by_cases hc : (textRes b q).2.2 = 0
  · have h3n : ∃ r : Nat,(textRes b q).2.1 = (r : Int) := by
      rcases text_cases b q with ⟨c,hc',e⟩ | ⟨N,q',e,hq,hs,hN⟩ | ⟨N,q',e,hq,hs,hN,hlt⟩ | ⟨N,q',e,hq,hs,hN,hlt⟩
      · rw [textRes_bad e hc']; exact ⟨0,rfl⟩
      · rw [textRes_len e hN]; exact ⟨0,rfl⟩
      · rw [textRes_short e hN hlt]; exact ⟨0,rfl⟩
      · rw [textRes_good e hN hlt]; exact ⟨_,rfl⟩
    obtain ⟨r,hr⟩ := h3n
    have e3 : textRes b q = ((textRes b q).1,(r : Int),0) := Prod.ext rfl (Prod.ext hr hc)
    generalize (textRes b q).1 = d at e3 hdm'
    rw [e3] at H3'
    have hsame := rec_same hb.symm h3 (by omega) e1 e2 e3
    by_cases h : ((r : Int) = (b.size : Int) ∧ recRightB k t d = true)
    · have hk := (right_iff.1 h.2).1
      rw [hres _ (recOfRes_5 e1 e2 e3 h.1 h.2),if_neg (by show ¬ k = 0; omega)]
      exact spec_read_5 s b d (recBytes k t d) k t p q r 0 0 0 w (by omega) (by rw [beq_iff_eq,Lib.toList_data]; exact hsame.2 h) HU H1 H2' H3' (fun w => spec_recBytes k t d w hdm')
    · rw [hres _ (recOfRes_4 e1 e2 e3 h),if_pos rfl]
      exact spec_read_4 s b d (recBytes k t d) k t p q r 0 0 0 w (by omega) (by rw [beq_eq_false_iff_ne,Lib.toList_data]; exact fun e => h (hsame.1 e)) HU H1 H2' H3' (fun w => spec_recBytes k t d w hdm')
  · have e3 : textRes b q = ((textRes b q).1,(textRes b q).2.1,(textRes b q).2.2) := rfl
    rw [hres _ (recOfRes_3 e1 e2 e3 hc),if_pos rfl]
    exact spec_read_3 s b _ _ k t p q _ 0 0 _ w hc HU H1 H2' H3' (fun w => spec_recBytes k t _ w hdm')
end Go.Proofs.YtahccighonddaaaGreatDoor
namespace Go.Proofs.YtahccighonddaaaGreatDoor
open Go.RowKit
end Go.Proofs.YtahccighonddaaaGreatDoor
