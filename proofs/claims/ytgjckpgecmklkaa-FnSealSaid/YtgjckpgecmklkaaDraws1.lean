/- Contracts for the draws of chapter 2, as far as the laws need them. -/
import Derived.Test.YtgjckpgecmklkaaSrc
import Derived.Test.YtgjckpgecmklkaaCopy
import Derived.Test.YtgjckpgecmklkaaCrc
namespace Go.Proofs.Ytgjckpgecmklkaa
open Go.RowKit

/-- The numbers at some limit. -/
def edges : List Int := [0, 1, -1, 2, 1000, 1001, 2147483648, 2147483647, -2147483648, 4611686018427387904, 9223372036854775807, -9223372036854775808, 1000000, 1000001]
def inI64 (v : Int) : Prop := -9223372036854775808 ≤ v ∧ v ≤ 9223372036854775807
theorem edge_at (r : Nat) (h : r < 14) : ∃ v : Int, (edges.map (Value.int .i64)).toArray[r]? = some (.int .i64 v) ∧ Hid (inI64 v) := by
  rcases (show r = 0 ∨ r = 1 ∨ r = 2 ∨ r = 3 ∨ r = 4 ∨ r = 5 ∨ r = 6 ∨ r = 7 ∨ r = 8 ∨ r = 9 ∨ r = 10 ∨ r = 11 ∨ r = 12 ∨ r = 13 by omega) with e | e | e | e | e | e | e | e | e | e | e | e | e | e <;> subst e <;> exact ⟨_, rfl, by constructor <;> decide⟩

set_option maxRecDepth 100000 in
set_option maxHeartbeats 1000000 in
theorem src_edge (g : Nat) (w : World) (a : Option Addr) (len cap B : Nat) (hl : len ≤ 1048576) (hs : Src w g a len cap) (hb : Bytes B w a len) (hB : B ≤ g) (hg : g < w.heap.size) :
    Calls Try.prog 38 #[.pointer (some ⟨g, 0, none⟩)] w fun e w' => ∃ v : Int, e = .returned (.int .i64 v) ∧ inI64 v ∧ Src w' g a len cap ∧ Below g w w' := by
  have hal : Below w.heap.size w (w.alloc (.cells (edges.map (Value.int .i64)).toArray 2)) := (Below.refl _ _).alloc (Nat.le_refl _) _
  have HS : Hid _ := src_below hs hal hg
  have HB : Hid _ := bytes_below hb hal (by omega)
  have HA : Hid _ := hal
  clear hs hb hal
  go_enter Try.func38, Try.ntmps38
  go_wp2_with fail
  refine (src_n g 14 (w.alloc (.cells (edges.map (Value.int .i64)).toArray 2)) a len cap B (by omega) (by omega) hl HS.out HB.out hB).mono ?_
  rintro e w1 ⟨r, rfl, hr, hs1, hg1⟩
  obtain ⟨v, hv, hvb⟩ := edge_at r hr
  have hcell : w1.cell? ⟨w.heap.size, r, none⟩ = some (.int .i64 v) := hg1.cell (a := ⟨w.heap.size, r, none⟩) ((cell_of_heap (heap_alloc_new w _) r).trans hv) (by simp; omega)
  have HS1 : Hid _ := hs1
  have HBel : Hid (Below g w w1) := (HA.out.mono (by omega)).grown hg1 (by simp; omega) (fun k hk => by simp at hk; omega)
  clear hs1 hg1 hv
  go_wp2
  go_ret
  exact ⟨v, rfl, hvb.out, HS1.out, HBel.out⟩

/-- Zero bytes as a text. -/
theorem conv_zeros (w : World) (Z : List Value) (n : Nat) (hZ : Z = List.replicate n (.int .u8 0)) (hn : n ≤ 1048576) :
    (convert 22 9 (.slice (some ⟨w.heap.size, 0, none⟩) n n)).run Try.prog (w.alloc (.cells Z.toArray 5)) = .ok (.string ⟨(List.replicate n (0 : UInt8)).toArray⟩) (w.alloc (.cells Z.toArray 5)) := by
  have hc : Z = (List.replicate n (0 : UInt8)).map bv := by rw [hZ]; simp [bv]
  exact conv_own (P := Try.prog) (dst := 9) Try.underlying22 Try.underlying5 Try.underlying9
    (owns_of_row (w := w.alloc (.cells Z.toArray 5)) (n := n) (Nat.le_refl w.heap.size) (heap_alloc_new w _) hc (by simp) (by unfold maxLen; omega))
theorem mk_zeros (n : Nat) (x : Int) (hx : x = n) (hn : n ≤ 1048576) : ∃ Z : List Value, Hid (Z = List.replicate n (.int .u8 0)) ∧ ∀ u : World, (Instr.makeSlice 22 (.int .i64 x) (.int .i64 x)).run Try.prog u =
      .ok (.slice (some ⟨u.heap.size, 0, none⟩) n n) (u.alloc (.cells Z.toArray 5)) := by
  obtain ⟨i0, hi, hz0, hz1, hz2⟩ := info_parts info_u8
  subst hx
  refine ⟨(madeCells #[.int .u8 0] n).toList, show _ = _ from toList_madeCells_one _ _, fun u => ?_⟩
  have h := run_make (P := Try.prog) u 22 5 i0 (.int .u8 0) Try.underlying22 hi hz0 .i64 .i64 (n : Int) (n : Int) (by omega) (Int.le_refl _) (by rw [hz2]; omega) (by omega)
  simpa [hz1, Value.cells] using h

set_option maxRecDepth 100000 in
set_option maxHeartbeats 2000000 in
theorem draw_seal (w : World) (a : Option Addr) (len cap : Nat) (hl : len ≤ 1048576) (hb : Bytes w.heap.size w a len) :
    Calls Try.prog 11 #[.slice a len cap] w fun e w' => ∃ l : List UInt8, e = .returned (.string ⟨l.toArray⟩) ∧ (l.length ≤ 20 ∨ 19995 ≤ l.length) ∧ l.length ≤ 20000 ∧ Below w.heap.size w w' := by
  have HB : Hid _ := hb
  clear hb
  go_enter Try.func11, Try.ntmps11
  go_wp2_with fail
  refine (src_make w a len cap hl HB.out).mono ?_
  rintro e w1 ⟨rfl, hs1, hb1⟩
  have HS1 : Hid _ := hs1
  have HB1 : Hid _ := bytes_below HB.out hb1 (Nat.le_refl _)
  have HL1 : Hid (Below w.heap.size w w1) := hb1
  have hz1 : w.heap.size < w1.heap.size := by
    obtain ⟨_, _, _, hh, _⟩ := hs1
    rcases Nat.lt_or_ge w.heap.size w1.heap.size with h | h
    · exact h
    · rw [Array.getElem?_eq_none h] at hh; cases hh
  clear hs1 hb1
  go_wp2_with fail
  refine (src_one w.heap.size 30 _ a len cap w.heap.size (by omega) (by omega) hl HS1.out HB1.out (Nat.le_refl _)).mono ?_
  rintro e w2 ⟨r, rfl, hr, hs2, hg2⟩
  have HS2 : Hid _ := hs2
  have HB2 : Hid _ := bytes_grown HB1.out hg2 (Nat.le_refl _)
  have HL2 : Hid (Below w.heap.size w w2) := HL1.out.grown hg2 (by omega) (fun k hk => by simp at hk; omega)
  have hz2 : w.heap.size < w2.heap.size := by have := hg2.size; omega
  clear hs2 hg2
  by_cases h0 : r = 0
  · have h0b : ((r : Int) == 0) = true := by rw [beq_iff_eq]; omega
    clear h0
    go_wp2_with fail
    refine (src_n w.heap.size 3 _ a len cap w.heap.size (by omega) (by omega) hl HS2.out HB2.out (Nat.le_refl _)).mono ?_
    rintro e w3 ⟨q, rfl, hq, hs3, hg3⟩
    have HL3 : Hid (Below w.heap.size w w3) := HL2.out.grown hg3 (by omega) (fun k hk => by simp at hk; omega)
    have hz3 : w.heap.size < w3.heap.size := by have := hg3.size; omega
    clear hs3 hg3
    obtain ⟨Z, hZ, hmk⟩ := mk_zeros (19995 + q) (19995 + (q : Int)) (by omega) (by omega)
    have hcv := conv_zeros w3 Z (19995 + q) hZ.out (by omega)
    go_wp2
    go_ret
    exact ⟨_, rfl, .inr (by simp), by simp; omega, HL3.out.alloc (by omega) _⟩
  · have h0b : ((r : Int) == 0) = false := by rw [beq_eq_false_iff_ne]; omega
    clear h0
    go_wp2_with fail
    refine (src_n w.heap.size 20 _ a len cap w.heap.size (by omega) (by omega) hl HS2.out HB2.out (Nat.le_refl _)).mono ?_
    rintro e w3 ⟨q, rfl, hq, hs3, hg3⟩
    have HS3 : Hid _ := hs3
    have HB3 : Hid _ := bytes_grown HB2.out hg3 (Nat.le_refl _)
    have HL3 : Hid (Below w.heap.size w w3) := HL2.out.grown hg3 (by omega) (fun k hk => by simp at hk; omega)
    have hz3 : w.heap.size < w3.heap.size := by have := hg3.size; omega
    clear hs3 hg3
    go_wp2_with fail
    refine (src_bytes w.heap.size q _ a len cap w.heap.size (by omega) hl HS3.out HB3.out (Nat.le_refl _) hz3).mono ?_
    rintro e w4 ⟨l, rfl, hll, hs4, hb4⟩
    have HL4 : Hid (Below w.heap.size w w4) := HL3.out.trans hb4
    have HLL : Hid (l.length = q) := hll
    clear hs4 hb4 hll
    go_wp2
    go_ret
    exact ⟨l, rfl, .inl (by have := HLL.out; omega), by have := HLL.out; omega, HL4.out⟩
set_option maxRecDepth 100000 in
set_option maxHeartbeats 2000000 in
theorem draw_crcMore (w : World) (a : Option Addr) (len cap : Nat) (hl : len ≤ 1048576) (hb : Bytes w.heap.size w a len) :
    Calls Try.prog 16 #[.slice a len cap] w fun e w' => ∃ (c : Int) (l : List UInt8), e = .returned (.tuple #[.int .i64 c, .string ⟨l.toArray⟩]) ∧ l.length ≤ 9 ∧ inI64 c ∧ Below w.heap.size w w' := by
  have HB : Hid _ := hb
  clear hb
  go_enter Try.func16, Try.ntmps16
  go_wp2_with fail
  refine (src_make w a len cap hl HB.out).mono ?_
  rintro e w1 ⟨rfl, hs1, hb1⟩
  have HS1 : Hid _ := hs1
  have HB1 : Hid _ := bytes_below HB.out hb1 (Nat.le_refl _)
  have HL1 : Hid (Below w.heap.size w w1) := hb1
  have hz1 : w.heap.size < w1.heap.size := by
    obtain ⟨_, _, _, hh, _⟩ := hs1
    rcases Nat.lt_or_ge w.heap.size w1.heap.size with h | h
    · exact h
    · rw [Array.getElem?_eq_none h] at hh; cases hh
  clear hs1 hb1
  go_wp2_with fail
  refine (src_n w.heap.size 9 _ a len cap w.heap.size (by omega) (by omega) hl HS1.out HB1.out (Nat.le_refl _)).mono ?_
  rintro e w2 ⟨q, rfl, hq, hs2, hg2⟩
  have HS2 : Hid _ := hs2
  have HB2 : Hid _ := bytes_grown HB1.out hg2 (Nat.le_refl _)
  have HL2 : Hid (Below w.heap.size w w2) := HL1.out.grown hg2 (by omega) (fun k hk => by simp at hk; omega)
  have hz2 : w.heap.size < w2.heap.size := by have := hg2.size; omega
  clear hs2 hg2
  go_wp2_with fail
  refine (src_bytes w.heap.size q _ a len cap w.heap.size (by omega) hl HS2.out HB2.out (Nat.le_refl _) hz2).mono ?_
  rintro e w3 ⟨l, rfl, hll, hs3, hb3⟩
  have HS3 : Hid _ := hs3
  have HB3 : Hid _ := bytes_below HB2.out hb3 (Nat.le_refl _)
  have HL3 : Hid (Below w.heap.size w w3) := HL2.out.trans hb3
  have hz3 : w.heap.size < w3.heap.size := by have := hb3.size; omega
  have HLL : Hid (l.length ≤ 9) := by show l.length ≤ 9; omega
  clear hs3 hb3 hll
  go_wp2_with fail
  refine (src_one w.heap.size 5 _ a len cap w.heap.size (by omega) (by omega) hl HS3.out HB3.out (Nat.le_refl _)).mono ?_
  rintro e w4 ⟨r, rfl, hr, hs4, hg4⟩
  have HS4 : Hid _ := hs4
  have HB4 : Hid _ := bytes_grown HB3.out hg4 (Nat.le_refl _)
  have HL4 : Hid (Below w.heap.size w w4) := HL3.out.grown hg4 (by omega) (fun k hk => by simp at hk; omega)
  have hz4 : w.heap.size < w4.heap.size := by have := hg4.size; omega
  clear hs4 hg4
  by_cases h0 : r = 0
  · have h0b : ((r : Int) == 0) = true := by rw [beq_iff_eq]; omega
    clear h0
    go_wp2_with fail
    refine (src_edge w.heap.size _ a len cap w.heap.size hl HS4.out HB4.out (Nat.le_refl _) hz4).mono ?_
    rintro e w5 ⟨v, rfl, hv, hs5, hb5⟩
    have HL5 : Hid (Below w.heap.size w w5) := HL4.out.trans hb5
    have HV : Hid (inI64 v) := hv
    clear hs5 hb5 hv
    go_wp2
    go_ret2
    exact ⟨v, l, rfl, HLL.out, HV.out, HL5.out⟩
  · have h0b : ((r : Int) == 0) = false := by rw [beq_eq_false_iff_ne]; omega
    clear h0
    go_wp2_with fail
    refine (src_n w.heap.size 9 _ a len cap w.heap.size (by omega) (by omega) hl HS4.out HB4.out (Nat.le_refl _)).mono ?_
    rintro e w5 ⟨p, rfl, hp, hs5, hg5⟩
    have HS5 : Hid _ := hs5
    have HB5 : Hid _ := bytes_grown HB4.out hg5 (Nat.le_refl _)
    have HL5 : Hid (Below w.heap.size w w5) := HL4.out.grown hg5 (by omega) (fun k hk => by simp at hk; omega)
    have hz5 : w.heap.size < w5.heap.size := by have := hg5.size; omega
    clear hs5 hg5
    go_wp2_with fail
    refine (src_bytes w.heap.size p _ a len cap w.heap.size (by omega) hl HS5.out HB5.out (Nat.le_refl _) hz5).mono ?_
    rintro e w6 ⟨l2, rfl, hl2, hs6, hb6⟩
    have HL6 : Hid (Below w.heap.size w w6) := HL5.out.trans hb6
    have hl3 : l2.length ≤ 9 := by omega
    clear hs6 hb6 hl2
    go_wp2_with fail
    refine (spec_crc ⟨l2.toArray⟩ _ (by rw [size_mk]; omega)).mono ?_
    rintro e w7 ⟨rfl, rfl⟩
    have hcb : Hid (inI64 ((crcOf 0 (⟨l2.toArray⟩ : ByteArray).data.toList : Nat) : Int)) := by
      have := crcOf_lt 0 (⟨l2.toArray⟩ : ByteArray).data.toList
      exact ⟨by omega, by omega⟩
    go_wp2
    go_ret2
    exact ⟨_, l, rfl, HLL.out, hcb.out, HL6.out⟩
end Go.Proofs.Ytgjckpgecmklkaa
