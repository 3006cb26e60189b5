/- A record comes back from its bytes, and the bytes from what is read of them: plain mathematics. -/
import Derived.Test.YtbafkhfkijmjcaaDoorRecRead2
namespace Go.Proofs.YtbafkhfkijmjcaaDoor
open Go.RowKit

theorem recOfRes_inv {b : ByteArray} {k t : Int} {d : ByteArray} (h : recOfRes b = (k, t, d)) (hk : k ≠ 0) :
    ∃ p q : Nat, numRes b (0 : Nat) = (k, (p : Int), 0) ∧ numRes b p = (t, (q : Int), 0) ∧ textRes b q = (d, (b.size : Int), 0) ∧ recRightB k t d = true := by
  rcases numRes_cases b 0 with ⟨c, hc, e1⟩ | ⟨k', p, e1, _, _⟩
  · rw [recOfRes_1 e1 hc] at h
    exact absurd (congrArg Prod.fst h).symm hk
  rcases numRes_cases b p with ⟨c, hc, e2⟩ | ⟨t', q, e2, _, _⟩
  · rw [recOfRes_2 e1 e2 hc] at h
    exact absurd (congrArg Prod.fst h).symm hk
  obtain ⟨d', a, c, e3⟩ : ∃ d' a c, textRes b q = (d', a, c) := ⟨_, _, _, rfl⟩
  by_cases hc : c = 0
  · subst hc
    by_cases hy : a = (b.size : Int) ∧ recRightB k' t' d' = true
    · rw [recOfRes_5 e1 e2 e3 hy.1 hy.2] at h
      simp only [Prod.mk.injEq] at h
      obtain ⟨rfl, rfl, rfl⟩ := h
      exact ⟨p, q, e1, e2, by rw [e3, hy.1], hy.2⟩
    · rw [recOfRes_4 e1 e2 e3 hy] at h
      exact absurd (congrArg Prod.fst h).symm hk
  · rw [recOfRes_3 e1 e2 e3 hc] at h
    exact absurd (congrArg Prod.fst h).symm hk
/-- What is read without a fault has just these bytes, and is right. -/
theorem readRes_ok {s : ByteArray} {k t : Int} {d : ByteArray} (h : readRes s = (k, t, d, 0)) : recBytes k t d = s.data.toList ∧ recRightB k t d = true := by
  unfold readRes at h
  by_cases h1 : 8000 < s.size
  · rw [if_pos h1] at h; simp at h
  rw [if_neg h1] at h
  by_cases h2 : s.size < 4
  · rw [if_pos h2] at h; simp at h
  rw [if_neg h2] at h
  cases h3 : sealedB s
  · rw [if_pos h3] at h; simp at h
  rw [if_neg (by simp [h3])] at h
  generalize hr : recOfRes (s.extract 0 (s.size - 4)) = r at h
  obtain ⟨k', t', d'⟩ := r
  by_cases hk : k' = 0
  · simp [hk] at h
  · simp only [if_neg hk, Prod.mk.injEq, and_true] at h
    obtain ⟨rfl, rfl, rfl⟩ := h
    obtain ⟨p, q, e1, e2, e3, hR⟩ := recOfRes_inv hr hk
    exact ⟨(rec_same rfl h3 (by omega) e1 e2 e3).2 ⟨rfl, hR⟩, hR⟩
theorem sealed_of (l : List UInt8) : sealedB ⟨(sealBytes l).toArray⟩ = true := by
  unfold sealedB
  rw [beq_iff_eq, Lib.toList_data, size_mk]
  have e : (sealBytes l).length - 4 = l.length := by simp [sealBytes, four_len]
  rw [e]
  simp [sealBytes]
theorem body_of (l : List UInt8) : (⟨(sealBytes l).toArray⟩ : ByteArray).extract 0 ((⟨(sealBytes l).toArray⟩ : ByteArray).size - 4) = ⟨l.toArray⟩ := by
  rw [Lib.extract_eq, size_mk]
  have e : (sealBytes l).length - 4 = l.length := by simp [sealBytes, four_len]
  rw [e]
  simp [sealBytes]
/-- A right record comes back from its bytes. -/
theorem readRes_back {k t : Int} {d : ByteArray} (hR : recRightB k t d = true) : readRes ⟨(recBytes k t d).toArray⟩ = (k, t, d, 0) := by
  obtain ⟨h1, h2, h3, h4⟩ := right_iff.1 hR
  have hlk := num_len k
  have hlt := num_len t
  have hln := num_len (d.data.toList.length : Int)
  have hsz : d.data.toList.length = d.size := by simp
  have hb : recBytes k t d = sealBytes (recBody k t d.data.toList) := by unfold recBytes; rw [if_pos hR]
  have hbl : (recBody k t d.data.toList).length ≤ 46 := by
    simp only [recBody, textBytes, List.length_append]; omega
  have hsl : (sealBytes (recBody k t d.data.toList)).length = (recBody k t d.data.toList).length + 4 := by simp [sealBytes, four_len]
  have hB : (⟨(recBody k t d.data.toList).toArray⟩ : ByteArray).size ≤ 8000 := by rw [size_mk]; omega
  have e1 : numRes ⟨(recBody k t d.data.toList).toArray⟩ (0 : Nat) = (k, ((0 + (numBytes k).length : Nat) : Int), 0) :=
    numRes_at (rest := numBytes t ++ textBytes d.data.toList) (by omega) hB (by simp [recBody])
  have e2 : numRes ⟨(recBody k t d.data.toList).toArray⟩ ((0 + (numBytes k).length : Nat) : Int) = (t, (((0 + (numBytes k).length) + (numBytes t).length : Nat) : Int), 0) :=
    numRes_at (rest := textBytes d.data.toList) (by omega) hB (by simp [recBody])
  have e3 : textRes ⟨(recBody k t d.data.toList).toArray⟩ (((0 + (numBytes k).length) + (numBytes t).length : Nat) : Int) = (⟨d.data.toList.toArray⟩, (((0 + (numBytes k).length) + (numBytes t).length + (textBytes d.data.toList).length : Nat) : Int), 0) :=
    textRes_back (rest := []) (by omega) hB (by simp [recBody, ← List.drop_drop])
  have ed : (⟨d.data.toList.toArray⟩ : ByteArray) = d := by cases d; simp
  rw [ed] at e3
  have hk : k ≠ 0 := by omega
  have hres := recOfRes_5 e1 e2 e3 (by rw [size_mk, recBody, List.length_append, List.length_append]; omega) hR
  unfold readRes
  rw [hb, if_neg (by rw [size_mk]; omega), if_neg (by rw [size_mk]; omega), if_neg (by simp [sealed_of]), body_of, hres]
  simp [hk]
end Go.Proofs.YtbafkhfkijmjcaaDoor
