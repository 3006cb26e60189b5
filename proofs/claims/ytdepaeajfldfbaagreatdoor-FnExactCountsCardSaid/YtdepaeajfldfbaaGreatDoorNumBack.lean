/- Numbers and texts come back from their bytes: plain mathematics. -/
import Derived.Test.YtdepaeajfldfbaaGreatDoorGetText
import Derived.Test.YtdepaeajfldfbaaGreatDoorText
import Derived.Lib.Strings
namespace Go.Proofs.YtdepaeajfldfbaaGreatDoor
open Go.RowKit

theorem unfold_fold (n : Int) : unfold64 (fold64 n) = n := by
  unfold unfold64 fold64
  by_cases h : 0 ≤ n
  · rw [if_pos h, if_pos (by omega)]
    omega
  · rw [if_neg h, if_neg (by omega)]
    omega
theorem toNat_of {x : Nat} (h : x < 256) : (UInt8.ofNat x).toNat = x := by
  rw [UInt8.toNat_ofNat']
  exact Nat.mod_eq_of_lt h
theorem scan_vb : ∀ (f k u U : Nat) (rest : List UInt8), f + k = 9 → u < room k → (k = 0 ∨ 0 < u) → scan (vb f u ++ rest) k U = (U + u * 128 ^ k, k + (vb f u).length, 0)
  | 0, k, u, U, rest, hf, hu, hp => by
    have hk : k = 9 := by omega
    subst hk
    have h9 : room 9 = 2 := by decide
    rw [h9] at hu
    have hb : (UInt8.ofNat u).toNat = u := toNat_of (by omega)
    show scan (UInt8.ofNat u :: rest) 9 U = _
    rw [scan_last (by rw [hb]; omega) (by rw [hb]; omega) (by rw [hb]; omega), hb]
    rfl
  | f + 1, k, u, U, rest, hf, hu, hp => by
    by_cases h : u < 128
    · have hb : (UInt8.ofNat u).toNat = u := toNat_of (by omega)
      rw [vb, if_pos h]
      show scan (UInt8.ofNat u :: rest) k U = _
      rw [scan_last (by rw [hb]; omega) (by rw [hb]; omega) (by rw [hb]; omega), hb]
      rfl
    · have hst := room_step hu h (by omega)
      have hb : (UInt8.ofNat (u % 128 + 128)).toNat = u % 128 + 128 := toNat_of (by omega)
      rw [vb_step h]
      show scan (UInt8.ofNat (u % 128 + 128) :: (vb f (u / 128) ++ rest)) k U = _
      rw [scan_more (by rw [hb]; omega) (by omega), hb, scan_vb f (k + 1) (u / 128) _ rest (by omega) hst.2 (.inr (by omega))]
      have e : (u % 128 + 128 - 128) * 128 ^ k + u / 128 * 128 ^ (k + 1) = u * 128 ^ k := by
        rw [Nat.pow_succ, Nat.add_sub_cancel, Nat.mul_comm (128 ^ k) 128, ← Nat.mul_assoc, ← Nat.add_mul]
        congr 1
        omega
      simp only [List.length_cons]
      rw [Nat.add_assoc U, e]
      congr 2
      omega
theorem scan_vb_short : ∀ (f k u U : Nat), f + k = 9 → u < room k → scan (vb f u).dropLast k U = (0, 0, 4)
  | 0, _, _, _, _, _ => rfl
  | f + 1, k, u, U, hf, hu => by
    by_cases h : u < 128
    · rw [vb, if_pos h]; rfl
    · have hst := room_step hu h (by omega)
      have hb : (UInt8.ofNat (u % 128 + 128)).toNat = u % 128 + 128 := toNat_of (by omega)
      have hne : vb f (u / 128) ≠ [] := by
        intro e
        have := (vb_len f (u / 128)).1
        rw [e] at this
        simp at this
      rw [vb_step h, List.dropLast_cons_of_ne_nil hne, scan_more (by rw [hb]; omega) (by omega)]
      exact scan_vb_short f (k + 1) (u / 128) _ (by omega) hst.2
theorem scan_num (n : Int) (hn : -9223372036854775808 ≤ n ∧ n ≤ 9223372036854775807) (rest : List UInt8) : scan (numBytes n ++ rest) 0 0 = (fold64 n, (numBytes n).length, 0) := by
  have h := scan_vb 9 0 (fold64 n) 0 rest rfl (fold64_lt n hn.1 hn.2) (.inl rfl)
  unfold numBytes
  rw [h]
  simp
theorem scan_num_short (n : Int) (hn : -9223372036854775808 ≤ n ∧ n ≤ 9223372036854775807) : scan (numBytes n).dropLast 0 0 = (0, 0, 4) :=
  scan_vb_short 9 0 (fold64 n) 0 rfl (fold64_lt n hn.1 hn.2)
/-- A number's bytes at place p of a text. -/
theorem numRes_at {s : ByteArray} {p : Nat} {n : Int} {rest : List UInt8} (hn : -9223372036854775808 ≤ n ∧ n ≤ 9223372036854775807) (hs : s.size ≤ 8000) (h : s.data.toList.drop p = numBytes n ++ rest) : numRes s p = (n, ((p + (numBytes n).length : Nat) : Int), 0) := by
  have h2 := numRes_good (p := p) hs (h ▸ scan_num n hn rest)
  rw [h2, unfold_fold]
theorem numRes_cut {s : ByteArray} {n : Int} (hn : -9223372036854775808 ≤ n ∧ n ≤ 9223372036854775807) (hs : s.size ≤ 8000) (h : s.data.toList = (numBytes n).dropLast) : numRes s (0 : Nat) = (0, 0, 4) :=
  numRes_bad (p := 0) hs (by omega) (by rw [List.drop_zero, h]; exact scan_num_short n hn)
theorem textRes_back {s : ByteArray} {p : Nat} {u rest : List UInt8} (hu : u.length ≤ 8000) (hs : s.size ≤ 8000) (h : s.data.toList.drop p = textBytes u ++ rest) : textRes s p = (⟨u.toArray⟩, ((p + (textBytes u).length : Nat) : Int), 0) := by
  have hn : -9223372036854775808 ≤ (u.length : Int) ∧ (u.length : Int) ≤ 9223372036854775807 := by omega
  have h1 : s.data.toList.drop p = numBytes (u.length : Int) ++ (u ++ rest) := by rw [h, textBytes, List.append_assoc]
  have hlen : s.data.toList.length - p = (textBytes u).length + rest.length := by rw [← List.length_drop, h, List.length_append]
  have htl : (textBytes u).length = (numBytes (u.length : Int)).length + u.length := by simp [textBytes]
  have hsz : s.data.toList.length = s.size := by simp
  have hpos : 1 ≤ (numBytes (u.length : Int)).length := (vb_len 9 _).1
  rw [textRes_good (numRes_at hn hs h1) hu (by omega)]
  have e : s.extract (p + (numBytes (u.length : Int)).length) (p + (numBytes (u.length : Int)).length + u.length) = ⟨u.toArray⟩ := by
    rw [Lib.extract_eq]
    have e1 : s.data.toList.drop (p + (numBytes (u.length : Int)).length) = u ++ rest := by
      rw [← List.drop_drop, h1, List.drop_left]
    rw [e1, Nat.add_sub_cancel_left, List.take_left]
  rw [e, htl, Nat.add_assoc]
theorem textRes_cut {s : ByteArray} {u : List UInt8} (hu : u.length ≤ 8000) (hs : s.size ≤ 8000) (h : s.data.toList = (textBytes u).dropLast) : (textRes s (0 : Nat)).2.2 = 4 := by
  have hn : -9223372036854775808 ≤ (u.length : Int) ∧ (u.length : Int) ≤ 9223372036854775807 := by omega
  by_cases hu0 : u = []
  · subst hu0
    have h' : s.data.toList = (numBytes ((([] : List UInt8).length : Nat) : Int)).dropLast := by rw [h, textBytes, List.append_nil]
    rw [textRes_bad (numRes_cut hn hs h') (by omega)]
  · have h1 : s.data.toList.drop 0 = numBytes (u.length : Int) ++ u.dropLast := by
      rw [List.drop_zero, h, textBytes, List.dropLast_append_of_ne_nil hu0]
    have hsz : s.data.toList.length = s.size := by simp
    have hup : 0 < u.length := List.length_pos_iff.2 hu0
    have hlen : s.size = (numBytes (u.length : Int)).length + (u.length - 1) := by
      rw [← hsz, h, textBytes]; simp; omega
    rw [textRes_short (numRes_at hn hs h1) hu (by omega)]
end Go.Proofs.YtdepaeajfldfbaaGreatDoor
