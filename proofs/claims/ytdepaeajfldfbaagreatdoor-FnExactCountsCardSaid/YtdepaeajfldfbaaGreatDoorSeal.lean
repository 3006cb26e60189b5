/- Contracts for Seal. -/
import Derived.Test.YtdepaeajfldfbaaGreatDoorCrc
import Derived.Test.YtdepaeajfldfbaaGreatDoorCopy
namespace Go.Proofs.YtdepaeajfldfbaaGreatDoor
open Go.RowKit

/-- The four bytes of a number, the lowest first. -/
def four (c : Nat) : List UInt8 := [UInt8.ofNat (c % 256), UInt8.ofNat (c / 256 % 256), UInt8.ofNat (c / 65536 % 256), UInt8.ofNat (c / 16777216 % 256)]
def sealBytes (l : List UInt8) : List UInt8 := l ++ four (crcOf 0 l)
theorem four_len (c : Nat) : (four c).length = 4 := rfl

theorem conv4 (w : World) (a b c d : Int) (l : List UInt8) (hl : [a, b, c, d] = l.map (fun x : UInt8 => (x.toNat : Int))) :
    (convert 200 9 (.slice (some ⟨w.heap.size, 0, none⟩) 4 4)).run Tryz.prog (w.alloc (.cells #[.int .u8 a, .int .u8 b, .int .u8 c, .int .u8 d] 5)) =
      .ok (.string ⟨l.toArray⟩) (w.alloc (.cells #[.int .u8 a, .int .u8 b, .int .u8 c, .int .u8 d] 5)) := by
  have hlen : l.length = 4 := by have := congrArg List.length hl; simpa using this.symm
  have hc : ([.int .u8 a, .int .u8 b, .int .u8 c, .int .u8 d] : List Value) = l.map bv := by
    have := congrArg (List.map (Value.int .u8)) hl
    rw [List.map_map] at this
    exact this
  have h := conv_own (P := Tryz.prog) (dst := 9) Tryz.underlying200 Tryz.underlying5 Tryz.underlying9 (owns_of_row (w := w.alloc (.cells #[.int .u8 a, .int .u8 b, .int .u8 c, .int .u8 d] 5)) (n := 4) (Nat.le_refl w.heap.size) (heap_alloc_new w _) hc hlen (by decide))
  exact h
theorem mk4 (w : World) : (Instr.makeSlice 200 (.int .i64 4) (.int .i64 4)).run Tryz.prog w = .ok (.slice (some ⟨w.heap.size, 0, none⟩) 4 4) (w.alloc (.cells #[.int .u8 0, .int .u8 0, .int .u8 0, .int .u8 0] 5)) := by kernel_rfl

set_option maxHeartbeats 1000000 in
theorem impl_sumText (c : Nat) (w : World) (hc : c < 4294967296) :
    Calls Tryz.prog 184 #[.int .i64 c] w fun e w' => e = .returned (.string ⟨(four c).toArray⟩) ∧ Below w.heap.size w w' := by
  have hmk := mk4
  have hcv := conv4 w ((c : Int) % 256) ((c : Int) / 256 % 256) ((c : Int) / 256 / 256 % 256) ((c : Int) / 256 / 256 / 256) (four c) (by simp [four]; omega)
  go_enter Tryz.func184, Tryz.ntmps184
  go_wp2
  refine wp_loop_rounds 5 ?_
  rw [rounds_succ]
  go_wp2
  rw [rounds_succ]
  go_wp2
  rw [rounds_succ]
  go_wp2
  rw [rounds_succ]
  go_wp2
  rw [rounds_succ]
  go_wp2
  go_ret
  exact ⟨rfl, (Below.refl _ _).alloc (Nat.le_refl _) _⟩
set_option maxHeartbeats 1000000 in
theorem spec_four (c : Nat) (w : World) (hc : c < 4294967296) :
    Calls Tryz.prog 160 #[.int .i64 c] w fun e w' => e = .returned (.string ⟨(four c).toArray⟩) ∧ Below w.heap.size w w' := by
  have hcv := conv4 w ((c : Int) % 256) ((c : Int) / 256 % 256) ((c : Int) / 65536 % 256) ((c : Int) / 16777216) (four c) (by simp [four]; omega)
  go_enter Tryz.func160, Tryz.ntmps160
  go_wp2
  go_ret
  exact ⟨rfl, (Below.refl _ _).alloc (Nat.le_refl _) _⟩

theorem impl_seal (s : ByteArray) (w : World) (hs : s.size ≤ 7996) :
    Calls Tryz.prog 171 #[.string s] w fun e w' => e = .returned (.string ⟨(sealBytes s.data.toList).toArray⟩) ∧ Below w.heap.size w w' := by
  go_enter Tryz.func171, Tryz.ntmps171
  go_wp2_with fail
  refine (impl_crc s _ (by omega)).mono ?_
  rintro e w1 ⟨rfl, rfl⟩
  go_wp2_with fail
  refine (impl_sumText _ _ (crcOf_lt _ _)).mono ?_
  rintro e w2 ⟨rfl, hb2⟩
  go_wp2_with fail
  refine (impl_joinTexts s _ _ (by rw [size_mk (four _), four_len]; omega)).mono ?_
  rintro e w3 ⟨rfl, hb3⟩
  go_wp2
  go_ret
  exact ⟨by simp [sealBytes], hb2.trans (hb3.mono hb2.size)⟩
theorem impl_seal_no (s : ByteArray) (w : World) (hm : s.size ≤ maxLen) (hs : 7996 < s.size) :
    Calls Tryz.prog 171 #[.string s] w fun e w' => e = .returned (.string ⟨#[]⟩) ∧ w' = w := by
  unfold maxLen at hm
  go_enter Tryz.func171, Tryz.ntmps171
  go_wp2
  go_ret
  exact ⟨rfl, rfl⟩
theorem spec_seal (s : ByteArray) (w : World) (hs : s.size ≤ 7996) :
    Calls Tryz.prog 175 #[.string s] w fun e w' => e = .returned (.string ⟨(sealBytes s.data.toList).toArray⟩) ∧ Below w.heap.size w w' := by
  have HC : Hid (∀ w, Calls Tryz.prog 161 #[.int .i64 0, .string s] w fun e w' => e = .returned (.int .i64 (crcOf 0 s.data.toList : Nat)) ∧ w' = w) := fun w => spec_l01Crc 0 s w (by omega) (by omega)
  have hl : (four (crcOf 0 s.data.toList)).length ≤ 4 := Nat.le_refl _
  go_enter Tryz.func175, Tryz.ntmps175
  go_wp2_with fail
  refine (HC.out _).mono ?_
  rintro e w1 ⟨rfl, rfl⟩
  go_wp2_with fail
  refine (spec_four _ _ (crcOf_lt _ _)).mono ?_
  rintro e w2 ⟨rfl, hb2⟩
  go_wp2
  go_ret
  exact ⟨ret_string ((cat_eq' s _).trans rfl), hb2⟩
theorem spec_seal_no (s : ByteArray) (w : World) (hm : s.size ≤ maxLen) (hs : 7996 < s.size) :
    Calls Tryz.prog 175 #[.string s] w fun e w' => e = .returned (.string ⟨#[]⟩) ∧ w' = w := by
  unfold maxLen at hm
  go_enter Tryz.func175, Tryz.ntmps175
  go_wp2
  go_ret
  exact ⟨rfl, rfl⟩

end Go.Proofs.YtdepaeajfldfbaaGreatDoor
