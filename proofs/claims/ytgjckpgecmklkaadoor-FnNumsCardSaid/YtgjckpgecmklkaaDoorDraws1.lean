/- Contracts for the draws of chapter 2, as far as the laws need them. -/
import Derived.Test.YtgjckpgecmklkaaDoorSrc
import Derived.Test.YtgjckpgecmklkaaDoorCopy
namespace Go.Proofs.YtgjckpgecmklkaaDoor
open Go.RowKit

/-- The numbers at some limit. -/
def edges : List Int := [0, 1, -1, 2, 1000, 1001, 2147483648, 2147483647, -2147483648, 4611686018427387904, 9223372036854775807, -9223372036854775808, 1000000, 1000001]
def inI64 (v : Int) : Prop := -9223372036854775808 ≤ v ∧ v ≤ 9223372036854775807
theorem edge_at (r : Nat) (h : r < 14) : ∃ v : Int, (edges.map (Value.int .i64)).toArray[r]? = some (.int .i64 v) ∧ Hid (inI64 v) := by
  rcases (show r = 0 ∨ r = 1 ∨ r = 2 ∨ r = 3 ∨ r = 4 ∨ r = 5 ∨ r = 6 ∨ r = 7 ∨ r = 8 ∨ r = 9 ∨ r = 10 ∨ r = 11 ∨ r = 12 ∨ r = 13 by omega) with e | e | e | e | e | e | e | e | e | e | e | e | e | e <;> subst e <;> exact ⟨_, rfl, by constructor <;> decide⟩

set_option maxRecDepth 100000 in
set_option maxHeartbeats 1000000 in
theorem src_edge (g : Nat) (w : World) (a : Option Addr) (len cap B : Nat) (hl : len ≤ 1048576) (hs : Src w g a len cap) (hb : Bytes B w a len) (hB : B ≤ g) (hg : g < w.heap.size) :
    Calls Tryd.prog 29 #[.pointer (some ⟨g, 0, none⟩)] w fun e w' => ∃ v : Int, e = .returned (.int .i64 v) ∧ inI64 v ∧ Src w' g a len cap ∧ Below g w w' := by
  have hal : Below w.heap.size w (w.alloc (.cells (edges.map (Value.int .i64)).toArray 2)) := (Below.refl _ _).alloc (Nat.le_refl _) _
  have HS : Hid _ := src_below hs hal hg
  have HB : Hid _ := bytes_below hb hal (by omega)
  have HA : Hid _ := hal
  clear hs hb hal
  go_enter Tryd.func29, Tryd.ntmps29
  go_wp2_with fail
  refine (src_n g 14 (w.alloc (.cells (edges.map (Value.int .i64)).toArray 2)) a len cap B (by omega) (by omega) hl HS.out HB.out hB).mono ?_
  rintro e w1 ⟨r, rfl, hr, hs1, hg1⟩
  obtain ⟨v, hv, hvb⟩ := edge_at r hr
  have hcell : w1.cell? ⟨w.heap.size, r, none⟩ = some (.int .i64 v) := hg1.cell (a := ⟨w.heap.size, r, none⟩) ((cell_of_heap (heap_alloc_new w _) r).trans hv) (by simp; omega)
  have HS1 : Hid _ := hs1
  have HBel : Hid (Below g w w1) := (HA.out.mono (by omega)).grown hg1 (by simp; omega) (fun k hk => by simp at hk; omega)
  clear hs1 hg1 hv
  go_wp2
  go_ret
  exact ⟨v, rfl, hvb.out, HS1.out, HBel.out⟩

/-- Zero bytes as a text. -/
theorem conv_zeros (w : World) (Z : List Value) (n : Nat) (hZ : Z = List.replicate n (.int .u8 0)) (hn : n ≤ 1048576) :
    (convert 22 9 (.slice (some ⟨w.heap.size, 0, none⟩) n n)).run Tryd.prog (w.alloc (.cells Z.toArray 5)) = .ok (.string ⟨(List.replicate n (0 : UInt8)).toArray⟩) (w.alloc (.cells Z.toArray 5)) := by
  have hc : Z = (List.replicate n (0 : UInt8)).map bv := by rw [hZ]; simp [bv]
  exact conv_own (P := Tryd.prog) (dst := 9) Tryd.underlying22 Tryd.underlying5 Tryd.underlying9
    (owns_of_row (w := w.alloc (.cells Z.toArray 5)) (n := n) (Nat.le_refl w.heap.size) (heap_alloc_new w _) hc (by simp) (by unfold maxLen; omega))
theorem mk_zeros (n : Nat) (x : Int) (hx : x = n) (hn : n ≤ 1048576) : ∃ Z : List Value, Hid (Z = List.replicate n (.int .u8 0)) ∧ ∀ u : World, (Instr.makeSlice 22 (.int .i64 x) (.int .i64 x)).run Tryd.prog u =
      .ok (.slice (some ⟨u.heap.size, 0, none⟩) n n) (u.alloc (.cells Z.toArray 5)) := by
  obtain ⟨i0, hi, hz0, hz1, hz2⟩ := info_parts info_u8
  subst hx
  refine ⟨(madeCells #[.int .u8 0] n).toList, show _ = _ from toList_madeCells_one _ _, fun u => ?_⟩
  have h := run_make (P := Tryd.prog) u 22 5 i0 (.int .u8 0) Tryd.underlying22 hi hz0 .i64 .i64 (n : Int) (n : Int) (by omega) (Int.le_refl _) (by rw [hz2]; omega) (by omega)
  simpa [hz1, Value.cells] using h

set_option maxRecDepth 100000 in
set_option maxHeartbeats 2000000 in
theorem draw_putText (w : World) (a : Option Addr) (len cap : Nat) (hl : len ≤ 1048576) (hb : Bytes w.heap.size w a len) :
    Calls Tryd.prog 10 #[.slice a len cap] w fun e w' => ∃ l : List UInt8, e = .returned (.string ⟨l.toArray⟩) ∧ (l.length ≤ 20 ∨ 19999 ≤ l.length) ∧ l.length ≤ 20002 ∧ Below w.heap.size w w' := by
  have HB : Hid _ := hb
  clear hb
  go_enter Tryd.func10, Tryd.ntmps10
  go_wp2_with fail
  refine (src_make w a len cap hl HB.out).mono ?_
  rintro e w1 ⟨rfl, hs1, hb1⟩
  have HS1 : Hid _ := hs1
  have HB1 : Hid _ := bytes_below HB.out hb1 (Nat.le_refl _)
  have HL1 : Hid (Below w.heap.size w w1) := hb1
  have hz1 : w.heap.size < w1.heap.size := by
    obtain ⟨_, _, _, hh, _⟩ := hs1
    rcases Nat.lt_or_ge w.heap.size w1.heap.size with h | h
    · exact h
    · rw [Array.getElem?_eq_none h] at hh; cases hh
  clear hs1 hb1
  go_wp2_with fail
  refine (src_one w.heap.size 8 _ a len cap w.heap.size (by omega) (by omega) hl HS1.out HB1.out (Nat.le_refl _)).mono ?_
  rintro e w2 ⟨r, rfl, hr, hs2, hg2⟩
  have HS2 : Hid _ := hs2
  have HB2 : Hid _ := bytes_grown HB1.out hg2 (Nat.le_refl _)
  have HL2 : Hid (Below w.heap.size w w2) := HL1.out.grown hg2 (by omega) (fun k hk => by simp at hk; omega)
  have hz2 : w.heap.size < w2.heap.size := by have := hg2.size; omega
  clear hs2 hg2
  by_cases h0 : r = 0
  · have h0b : ((r : Int) == 0) = true := by rw [beq_iff_eq]; omega
    clear h0
    go_wp2_with fail
    refine (src_n w.heap.size 3 _ a len cap w.heap.size (by omega) (by omega) hl HS2.out HB2.out (Nat.le_refl _)).mono ?_
    rintro e w3 ⟨q, rfl, hq, hs3, hg3⟩
    have HL3 : Hid (Below w.heap.size w w3) := HL2.out.grown hg3 (by omega) (fun k hk => by simp at hk; omega)
    have hz3 : w.heap.size < w3.heap.size := by have := hg3.size; omega
    clear hs3 hg3
    obtain ⟨Z, hZ, hmk⟩ := mk_zeros (19999 + q) (19999 + (q : Int)) (by omega) (by omega)
    have hcv := conv_zeros w3 Z (19999 + q) hZ.out (by omega)
    go_wp2
    go_ret
    exact ⟨_, rfl, .inr (by simp), by simp; omega, HL3.out.alloc (by omega) _⟩
  · have h0b : ((r : Int) == 0) = false := by rw [beq_eq_false_iff_ne]; omega
    clear h0
    go_wp2_with fail
    refine (src_n w.heap.size 20 _ a len cap w.heap.size (by omega) (by omega) hl HS2.out HB2.out (Nat.le_refl _)).mono ?_
    rintro e w3 ⟨q, rfl, hq, hs3, hg3⟩
    have HS3 : Hid _ := hs3
    have HB3 : Hid _ := bytes_grown HB2.out hg3 (Nat.le_refl _)
    have HL3 : Hid (Below w.heap.size w w3) := HL2.out.grown hg3 (by omega) (fun k hk => by simp at hk; omega)
    have hz3 : w.heap.size < w3.heap.size := by have := hg3.size; omega
    clear hs3 hg3
    go_wp2_with fail
    refine (src_bytes w.heap.size q _ a len cap w.heap.size (by omega) hl HS3.out HB3.out (Nat.le_refl _) hz3).mono ?_
    rintro e w4 ⟨l, rfl, hll, hs4, hb4⟩
    have HL4 : Hid (Below w.heap.size w w4) := HL3.out.trans hb4
    have HLL : Hid (l.length = q) := hll
    clear hs4 hb4 hll
    go_wp2
    go_ret
    exact ⟨l, rfl, .inl (by have := HLL.out; omega), by have := HLL.out; omega, HL4.out⟩
set_option maxHeartbeats 1000000 in
theorem src_any (g : Nat) (w : World) (a : Option Addr) (len cap B : Nat) (hl : len ≤ 1048576) (hs : Src w g a len cap) (hb : Bytes B w a len) (hB : B ≤ g) (hg : g < w.heap.size) :
    Calls Tryd.prog 19 #[.pointer (some ⟨g, 0, none⟩)] w fun e w' => ∃ v : Int, e = .returned (.int .i64 v) ∧ inI64 v ∧ Below g w w' := by
  have HS : Hid _ := hs
  have HB : Hid _ := hb
  clear hs hb
  go_enter Tryd.func19, Tryd.ntmps19
  go_wp2_with fail
  refine (src_one g 4 _ a len cap B (by omega) (by omega) hl HS.out HB.out hB).mono ?_
  rintro e w1 ⟨r, rfl, hr, hs1, hg1⟩
  have HS1 : Hid _ := hs1
  have HB1 : Hid _ := bytes_grown HB.out hg1 hB
  have HL1 : Hid (Below g w w1) := (Below.refl g w).grown hg1 (by omega) (fun k hk => by simp at hk; omega)
  have hz1 : g < w1.heap.size := by have := hg1.size; omega
  clear hs1 hg1
  by_cases h0 : r = 0
  · have h0b : ((r : Int) == 0) = true := by rw [beq_iff_eq]; omega
    clear h0
    go_wp2_with fail
    refine (src_edge g _ a len cap B hl HS1.out HB1.out hB hz1).mono ?_
    rintro e w2 ⟨v, rfl, hv, hs2, hb2⟩
    have HL2 : Hid (Below g w w2) := HL1.out.trans hb2
    have HV : Hid (inI64 v) := hv
    clear hs2 hb2 hv
    go_wp2
    go_ret
    exact ⟨v, rfl, HV.out, HL2.out⟩
  · have h0b : ((r : Int) == 0) = false := by rw [beq_eq_false_iff_ne]; omega
    clear h0
    go_wp2_with fail
    refine (src_n g 1099511627776 _ a len cap B (by omega) (by omega) hl HS1.out HB1.out hB).mono ?_
    rintro e w2 ⟨q, rfl, hq, hs2, hg2⟩
    have HL2 : Hid (Below g w w2) := HL1.out.grown hg2 (by omega) (fun k hk => by simp at hk; omega)
    clear hs2 hg2
    go_wp2
    go_ret
    exact ⟨_, rfl, ⟨by omega, by omega⟩, HL2.out⟩
set_option maxHeartbeats 1000000 in
theorem draw_putNum (w : World) (a : Option Addr) (len cap : Nat) (hl : len ≤ 1048576) (hb : Bytes w.heap.size w a len) :
    Calls Tryd.prog 6 #[.slice a len cap] w fun e w' => ∃ v : Int, e = .returned (.int .i64 v) ∧ inI64 v ∧ Below w.heap.size w w' := by
  have HB : Hid _ := hb
  clear hb
  go_enter Tryd.func6, Tryd.ntmps6
  go_wp2_with fail
  refine (src_make w a len cap hl HB.out).mono ?_
  rintro e w1 ⟨rfl, hs1, hb1⟩
  have HS1 : Hid _ := hs1
  have HB1 : Hid _ := bytes_below HB.out hb1 (Nat.le_refl _)
  have HL1 : Hid (Below w.heap.size w w1) := hb1
  have hz1 : w.heap.size < w1.heap.size := by
    obtain ⟨_, _, _, hh, _⟩ := hs1
    rcases Nat.lt_or_ge w.heap.size w1.heap.size with h | h
    · exact h
    · rw [Array.getElem?_eq_none h] at hh; cases hh
  clear hs1 hb1
  go_wp2_with fail
  refine (src_any w.heap.size _ a len cap w.heap.size hl HS1.out HB1.out (Nat.le_refl _) hz1).mono ?_
  rintro e w2 ⟨v, rfl, hv, hb2⟩
  have HL2 : Hid (Below w.heap.size w w2) := HL1.out.trans hb2
  have HV : Hid (inI64 v) := hv
  clear hb2 hv
  go_wp2
  go_ret
  exact ⟨v, rfl, HV.out, HL2.out⟩
end Go.Proofs.YtgjckpgecmklkaaDoor
