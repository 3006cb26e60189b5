/- RecRead of the program, a sealed text. -/
import Derived.Test.YtblkbpgnhkjaaaaDoorRecRead
namespace Go.Proofs.YtblkbpgnhkjaaaaDoor
open Go.RowKit

set_option maxHeartbeats 1000000 in
theorem recRead_zero (s b : ByteArray) (w : World) (hT : utabs w)
    (H : ∀ w, Calls Tryd.prog 63 #[.string s] w fun e w' => e = .returned (textOut b 0 0) ∧ Below w.heap.size w w')
    (H2 : ∀ w, utabs w → Calls Tryd.prog 64 #[.string b] w fun e w' => e = .returned (recV 0 0 ⟨#[]⟩) ∧ Below w.heap.size w w') :
    Calls Tryd.prog 58 #[.string s] w fun e w' => e = .returned (recOut 0 0 ⟨#[]⟩ 3) ∧ Below w.heap.size w w' := by
  have HH : Hid _ := H
  have HH2 : Hid _ := H2
  have HT : Hid (utabs w) := hT
  clear H H2 hT
  go_enter Tryd.func58, Tryd.ntmps58
  go_wp2_with fail
  refine (HH.out _).mono ?_
  rintro e w1 ⟨rfl, hb1⟩
  have hz1 : w.heap.size < w1.heap.size := by have h := hb1.size; simp at h; omega
  have hc1 := fun o => hb1.cell (p := ⟨w.heap.size, o, none⟩) (by simp)
  have hf1 := fun o => hb1.frozen (p := ⟨w.heap.size, o, none⟩) (by simp)
  have hB : Below w.heap.size w w1 := ((Below.refl _ _).alloc (Nat.le_refl _) _).trans (hb1.mono (by simp))
  have HT1 : Hid (utabs (w1.alloc (.cells #[.string b, .int .i64 0, .int .i64 0] 55))) := utabs_alloc (utabs_below HT.out hB) _
  go_wp2_with fail
  refine (HH2.out _ HT1.out).mono ?_
  rintro e w2 ⟨rfl, hb2⟩
  have hz2 : w1.heap.size < w2.heap.size := by have h := hb2.size; simp at h; omega
  have hc2 := fun o => hb2.cell (p := ⟨w.heap.size, o, none⟩) (by simp; omega)
  have hf2 := fun o => hb2.frozen (p := ⟨w.heap.size, o, none⟩) (by simp; omega)
  have hz3 : w.heap.size < w2.heap.size := by omega
  have hB2 : Below w.heap.size w w2 := (hB.alloc (by omega) _).trans (hb2.mono (by simp; omega))
  go_wp2
  exact bodyPost_ret (v := recOut 0 0 ⟨#[]⟩ 3) (by simp [results, Tryd.results58, go_sem, hc1, hc2, World.cell?_alloc_lt, hz1, hz3]) rfl ⟨rfl, (((((hB2.setCell (by simp) _).setCell (by simp) _).setCell (by simp) _).setCell (by simp) _).alloc (by simp; omega) _)⟩
set_option maxHeartbeats 1000000 in
theorem recRead_some (s b d : ByteArray) (k t : Int) (w : World) (hT : utabs w) (hk : k ≠ 0)
    (H : ∀ w, Calls Tryd.prog 63 #[.string s] w fun e w' => e = .returned (textOut b 0 0) ∧ Below w.heap.size w w')
    (H2 : ∀ w, utabs w → Calls Tryd.prog 64 #[.string b] w fun e w' => e = .returned (recV k t d) ∧ Below w.heap.size w w') :
    Calls Tryd.prog 58 #[.string s] w fun e w' => e = .returned (recOut k t d 0) ∧ Below w.heap.size w w' := by
  have HH : Hid _ := H
  have HH2 : Hid _ := H2
  have HT : Hid (utabs w) := hT
  have hkb : (k == 0) = false := by rw [beq_eq_false_iff_ne]; exact hk
  clear H H2 hT hk
  go_enter Tryd.func58, Tryd.ntmps58
  go_wp2_with fail
  refine (HH.out _).mono ?_
  rintro e w1 ⟨rfl, hb1⟩
  have hz1 : w.heap.size < w1.heap.size := by have h := hb1.size; simp at h; omega
  have hc1 := fun o => hb1.cell (p := ⟨w.heap.size, o, none⟩) (by simp)
  have hf1 := fun o => hb1.frozen (p := ⟨w.heap.size, o, none⟩) (by simp)
  have hB : Below w.heap.size w w1 := ((Below.refl _ _).alloc (Nat.le_refl _) _).trans (hb1.mono (by simp))
  have HT1 : Hid (utabs (w1.alloc (.cells #[.string b, .int .i64 0, .int .i64 0] 55))) := utabs_alloc (utabs_below HT.out hB) _
  go_wp2_with fail
  refine (HH2.out _ HT1.out).mono ?_
  rintro e w2 ⟨rfl, hb2⟩
  have hz2 : w1.heap.size < w2.heap.size := by have h := hb2.size; simp at h; omega
  have hc2 := fun o => hb2.cell (p := ⟨w.heap.size, o, none⟩) (by simp; omega)
  have hf2 := fun o => hb2.frozen (p := ⟨w.heap.size, o, none⟩) (by simp; omega)
  have hz3 : w.heap.size < w2.heap.size := by omega
  have hB2 : Below w.heap.size w w2 := (hB.alloc (by omega) _).trans (hb2.mono (by simp; omega))
  go_wp2
  exact bodyPost_ret (v := recOut k t d 0) (by simp [results, Tryd.results58, go_sem, hc1, hc2, World.cell?_alloc_lt, hz1, hz3]) rfl ⟨rfl, (((((hB2.setCell (by simp) _).setCell (by simp) _).setCell (by simp) _).setCell (by simp) _).alloc (by simp; omega) _)⟩

/-- What RecRead answers. -/
def readRes (s : ByteArray) : Int × Int × ByteArray × Nat :=
  if 8000 < s.size then (0, 0, ⟨#[]⟩, 2) else if s.size < 4 then (0, 0, ⟨#[]⟩, 4) else if sealedB s = false then (0, 0, ⟨#[]⟩, 5)
    else let r := recOfRes (s.extract 0 (s.size - 4))
      if r.1 = 0 then (0, 0, ⟨#[]⟩, 3) else (r.1, r.2.1, r.2.2, 0)
abbrev recOutV (r : Int × Int × ByteArray × Nat) : Value := recOut r.1 r.2.1 r.2.2.1 (r.2.2.2 : Int)
theorem recOfRes_cases (b : ByteArray) : recOfRes b = (0, 0, ⟨#[]⟩) ∨ (∃ k t d, recOfRes b = (k, t, d) ∧ recRightB k t d = true ∧ k ≠ 0) := by
  by_cases h : recOfRes b = (0, 0, ⟨#[]⟩)
  · exact .inl h
  · right
    unfold recOfRes at h ⊢
    simp only at h ⊢
    split at h
    · exact absurd rfl h
    · rename_i h1
      rw [if_neg h1]
      split at h
      · exact absurd rfl h
      · rename_i h2
        rw [if_neg h2]
        split at h
        · exact absurd rfl h
        · rename_i h3
          rw [if_neg h3]
          split at h
          · rename_i h4
            rw [if_pos h4]
            refine ⟨_, _, _, rfl, h4.2, ?_⟩
            have := (right_iff.1 h4.2).1
            omega
          · exact absurd rfl h
theorem impl_recRead (s : ByteArray) (w : World) (hm : s.size ≤ maxLen) (hT : utabs w) :
    Calls Tryd.prog 58 #[.string s] w fun e w' => e = .returned (recOutV (readRes s)) ∧ Below w.heap.size w w' := by
  unfold readRes
  by_cases h1 : 8000 < s.size
  · rw [if_pos h1]
    exact recRead_code s 2 w (by omega) (fun w => impl_unseal_size s w hm h1)
  rw [if_neg h1]
  by_cases h2 : s.size < 4
  · rw [if_pos h2]
    exact recRead_code s 4 w (by omega) (fun w => impl_unseal_short s w h2)
  rw [if_neg h2]
  cases h3 : sealedB s
  · rw [if_pos rfl]
    exact recRead_code s 5 w (by omega) (fun w => impl_unseal_bad s w (by omega) (by omega) h3)
  · rw [if_neg (by simp)]
    have HU := fun w => impl_unseal_good s w (by omega) (by omega) h3
    have hb : (s.extract 0 (s.size - 4)).size ≤ 8000 := by simp; omega
    have HR := fun w h => impl_recOf (s.extract 0 (s.size - 4)) w hb h
    generalize s.extract 0 (s.size - 4) = b at HU HR
    rcases recOfRes_cases b with e | ⟨k, t, d, e, _, hk⟩
    · rw [e] at HR ⊢
      exact recRead_zero s b w hT HU HR
    · rw [e] at HR ⊢
      simp only [if_neg hk]
      exact recRead_some s b d k t w hT hk HU HR
end Go.Proofs.YtblkbpgnhkjaaaaDoor
