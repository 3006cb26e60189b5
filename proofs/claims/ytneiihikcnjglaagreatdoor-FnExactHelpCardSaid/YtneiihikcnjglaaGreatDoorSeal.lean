import Derived.Test.YtneiihikcnjglaaGreatDoorTextOut
import Derived.Laws.BitsAllLaws
import Derived.Test.YtneiihikcnjglaaGreatDoorCopy
/- The CRC, as plain mathematics on natural numbers. -/
namespace Go.Proofs.YtneiihikcnjglaaGreatDoor

/-- One bit's step of the register. -/
def crcStep (x : Nat) : Nat := if x % 2 = 1 then (x / 2) ^^^ 3988292384 else x / 2
def crcSteps : Nat → Nat → Nat
  | 0, x => x
  | k + 1, x => crcStep (crcSteps k x)
def crcByte (r b : Nat) : Nat := crcSteps 8 (r ^^^ b)
def crcReg (r : Nat) (l : List UInt8) : Nat := l.foldl (fun r b => crcByte r b.toNat) r
def crcOf (c : Nat) (l : List UInt8) : Nat := 4294967295 - crcReg (4294967295 - c) l

theorem xor_lt32 {a b : Nat} (ha : a < 4294967296) (hb : b < 4294967296) : a ^^^ b < 4294967296 := Nat.xor_lt_two_pow (n := 32) ha hb
theorem crcStep_lt {x : Nat} (h : x < 4294967296) : crcStep x < 4294967296 := by
  unfold crcStep
  split
  · exact xor_lt32 (by omega) (by decide)
  · omega
theorem crcSteps_lt : ∀ (k : Nat) {x : Nat}, x < 4294967296 → crcSteps k x < 4294967296
  | 0, _, h => h
  | k + 1, _, h => crcStep_lt (crcSteps_lt k h)
theorem crcByte_lt {r b : Nat} (hr : r < 4294967296) (hb : b < 256) : crcByte r b < 4294967296 := crcSteps_lt 8 (xor_lt32 hr (by omega))
theorem crcReg_snoc (r : Nat) (l : List UInt8) (b : UInt8) : crcReg r (l ++ [b]) = crcByte (crcReg r l) b.toNat := by simp [crcReg]
theorem crcOf_lt (c : Nat) (l : List UInt8) : crcOf c l < 4294967296 := by unfold crcOf; omega

theorem xor_half (a b : Nat) : (a ^^^ b) / 2 = a / 2 ^^^ b / 2 := by
  have h := Nat.shiftRight_xor_distrib (a := a) (b := b) (i := 1)
  simpa [Nat.shiftRight_eq_div_pow] using h
/-- The register and what is left of the byte, kept apart, step as they do put together. -/
theorem step_apart_one {r b : Nat} (h : (r ^^^ b) % 2 = 1) : (r / 2 ^^^ 3988292384) ^^^ (b / 2) = crcStep (r ^^^ b) := by
  rw [crcStep, if_pos h, xor_half, Nat.xor_assoc, Nat.xor_comm 3988292384 (b / 2), ← Nat.xor_assoc]
theorem step_apart_zero {r b : Nat} (h : ¬ (r ^^^ b) % 2 = 1) : (r / 2) ^^^ (b / 2) = crcStep (r ^^^ b) := by
  rw [crcStep, if_neg h, xor_half]

/-- All bits turned. -/
theorem xor_ones (x : Nat) (h : x < 4294967296) : x ^^^ 4294967295 = 4294967295 - x := by
  apply Nat.eq_of_testBit_eq
  intro i
  have e : 4294967295 - x = 2 ^ 32 - (x + 1) := by omega
  rw [e, Nat.testBit_two_pow_sub_succ (by omega), Nat.testBit_xor, show (4294967295 : Nat) = 2 ^ 32 - 1 from rfl, Nat.testBit_two_pow_sub_one]
  by_cases hi : i < 32
  · simp [hi]
  · have h' : x < 2 ^ 32 := h
    have : x.testBit i = false := Nat.testBit_lt_two_pow (Nat.lt_of_lt_of_le h' (Nat.pow_le_pow_right (n := 2) (by omega) (by omega : 32 ≤ i)))
    simp [hi, this]
end Go.Proofs.YtneiihikcnjglaaGreatDoor
/- Contracts for Crc, CrcMore: the program's and the model's give one number, and turn nothing. -/
namespace Go.Proofs.YtneiihikcnjglaaGreatDoor
open Go.RowKit

theorem u32_xorM (R : Nat) (h : R < 4294967296) : bits .xor .u32 ((R : Int) / 2) 3988292384 = ((R / 2 ^^^ 3988292384 : Nat) : Int) := by
  have h := u32_xor_nat (R / 2) 3988292384 (by omega) (by omega)
  have e : ((R / 2 : Nat) : Int) = (R : Int) / 2 := by omega
  rw [e] at h
  exact h
theorem u32_low (x : Nat) (h : x < 4294967296) : bits .and .u32 (x : Int) 1 = ((x % 2 : Nat) : Int) := by
  have h := u32_and_nat x 1 h (by omega)
  rw [nat_mask1] at h
  exact h
theorem half_pow (b k : Nat) : b / 2 ^ k / 2 = b / 2 ^ (k + 1) := by rw [Nat.div_div_eq_div_mul, Nat.pow_succ]

set_option maxHeartbeats 1000000 in
theorem impl_sumByte (r b : Nat) (w : World) (hr : r < 4294967296) (hb : b < 256) :
    Calls Tryz.prog 298 #[.int .u32 r, .int .u8 b] w fun e w' => e = .returned (.int .u32 (crcByte r b : Nat)) ∧ w' = w := by
  go_enter Tryz.func298, Tryz.ntmps298
  go_wp2
  go_loop [0, 1, 6] (fun x y i => ∃ (k R B : Nat), k ≤ 8 ∧ i = .int .i64 k ∧ x = .int .u32 R ∧ y = .int .u8 B ∧ R < 4294967296 ∧ B < 256 ∧ Hid (R ^^^ B = crcSteps k (r ^^^ b)) ∧ Hid (B = b / 2 ^ k)) (fun _ _ i => 8 - (intOf i).toNat)
  case atStart => exact ⟨0, r, b, by omega, rfl, rfl, rfl, hr, hb, rfl, by show b = b / 1; omega⟩
  case round =>
    obtain ⟨k, R, B, hk, rfl, rfl, rfl, hR, hB, hx, hd⟩ := hrel
    by_cases hlt : k < 8
    · have hxor : bits .xor .u32 (R : Int) (B : Int) = ((R ^^^ B : Nat) : Int) := u32_xor_nat R B hR (by omega)
      have hRB : R ^^^ B < 4294967296 := xor_lt32 hR (by omega)
      by_cases hp : (R ^^^ B) % 2 = 1
      · have HP : Hid ((R ^^^ B) % 2 = 1) := hp
        have hand : (bits .and .u32 ((R ^^^ B : Nat) : Int) 1 == 1) = true := by rw [u32_low _ hRB, hp]; rfl
        clear hp
        go_wp2
        go_round
        case rel => exact ⟨k + 1, R / 2 ^^^ 3988292384, B / 2, by omega, by go_num, val_int (u32_xorM R hR), val_int (by omega), xor_lt32 (by omega) (by omega), by omega, by show _ = crcStep _; rw [← hx.out]; exact step_apart_one HP.out, by rw [hd.out]; exact half_pow b k⟩
        case measure => simp [intOf]; omega
      · have HP : Hid (¬ (R ^^^ B) % 2 = 1) := hp
        have hand : (bits .and .u32 ((R ^^^ B : Nat) : Int) 1 == 1) = false := by rw [u32_low _ hRB, show (R ^^^ B) % 2 = 0 by omega]; rfl
        clear hp
        go_wp2
        go_round
        case rel => exact ⟨k + 1, R / 2, B / 2, by omega, by go_num, val_int (by omega), val_int (by omega), by omega, by omega, by show _ = crcStep _; rw [← hx.out]; exact step_apart_zero HP.out, by rw [hd.out]; exact half_pow b k⟩
        case measure => simp [intOf]; omega
    · go_wp2
      go_ret
      have e : k = 8 := by omega
      subst e
      have e0 : B = 0 := by rw [hd.out]; show b / 256 = 0; omega
      have hx' := hx.out
      rw [e0, Nat.xor_zero] at hx'
      exact ⟨ret_int (by rw [hx']; rfl), rfl⟩

theorem u32_not (c : Nat) (h : c < 4294967296) : bits .xor .u32 IntKind.u32.max (c : Int) = ((4294967295 - c : Nat) : Int) := by
  have e : IntKind.u32.max = ((4294967295 : Nat) : Int) := by decide
  rw [e, u32_xor_nat _ _ (by omega) h, Nat.xor_comm, xor_ones c h]
theorem u32_ones (c : Nat) (h : c < 4294967296) : bits .xor .u32 (c : Int) 4294967295 = ((4294967295 - c : Nat) : Int) := by
  have h1 := u32_xor_nat c 4294967295 h (by omega)
  rw [xor_ones c h] at h1
  exact h1

set_option maxHeartbeats 1000000 in
theorem impl_crcMore (c : Nat) (s : ByteArray) (w : World) (hc : c < 4294967296) (hs : s.size ≤ 8000) :
    Calls Tryz.prog 294 #[.int .i64 c, .string s] w fun e w' => e = .returned (.int .i64 (crcOf c s.data.toList : Nat)) ∧ w' = w := by
  have hu := u32_not c hc
  go_enter Tryz.func294, Tryz.ntmps294
  go_wp2
  go_loop [5, 6] (fun x i => ∃ (k R : Nat), k ≤ s.size ∧ i = .int .i64 k ∧ x = .int .u32 R ∧ R < 4294967296 ∧ Hid (R = crcReg (4294967295 - c) (s.data.toList.take k))) (fun _ i => s.size - (intOf i).toNat)
  case atStart => exact ⟨0, 4294967295 - c, by omega, rfl, rfl, by omega, rfl⟩
  case round =>
    obtain ⟨k, R, hk, rfl, rfl, hR, hx⟩ := hrel
    by_cases hlt : k < s.size
    · clear hu
      go_wp2_with (first | (go_at_call 298; refine (impl_sumByte _ _ _ hR s[k].toNat_lt).mono ?_; rintro e w' ⟨rfl, rfl⟩))
      go_round
      case rel => exact ⟨k + 1, crcByte R s[k].toNat, by omega, by go_num, rfl, crcByte_lt hR s[k].toNat_lt, by show crcByte R _ = crcReg _ _; rw [take_snoc s k hlt, crcReg_snoc, ← hx.out]⟩
      case measure => simp [intOf]; omega
    · clear hu
      have hu := u32_not R hR
      have he : Hid (4294967295 - R = crcOf c s.data.toList) := by show _ = _; rw [crcOf, hx.out, take_all s k hlt]
      go_wp2
      go_ret
      exact ⟨ret_int (by rw [he.out]), rfl⟩

set_option maxHeartbeats 1000000 in
theorem spec_l01Crc (c : Nat) (s : ByteArray) (w : World) (hc : c < 4294967296) (hs : s.size ≤ 8000) :
    Calls Tryz.prog 234 #[.int .i64 c, .string s] w fun e w' => e = .returned (.int .i64 (crcOf c s.data.toList : Nat)) ∧ w' = w := by
  have hu := u32_ones c hc
  go_enter Tryz.func234, Tryz.ntmps234
  go_wp2
  go_loop [5, 6, 7] (fun x i _ => ∃ (k R : Nat), k ≤ s.size ∧ i = .int .i64 k ∧ x = .int .u32 R ∧ R < 4294967296 ∧ Hid (R = crcReg (4294967295 - c) (s.data.toList.take k))) (fun _ i _ => s.size - (intOf i).toNat)
  case atStart => exact ⟨0, 4294967295 - c, by omega, rfl, rfl, by omega, rfl⟩
  case round =>
    obtain ⟨k, R, hk, rfl, rfl, hR, hx⟩ := hrel
    clear hu
    by_cases hlt : k < s.size
    · have hsk := s[k].toNat_lt
      have hxor : bits .xor .u32 (R : Int) (s[k].toNat : Int) = ((R ^^^ s[k].toNat : Nat) : Int) := u32_xor_nat R _ hR (by omega)
      go_wp2
      clear hxor
      go_loop [5, 7] (fun x i => ∃ (j X : Nat), j ≤ 8 ∧ i = .int .i64 j ∧ x = .int .u32 X ∧ X < 4294967296 ∧ Hid (X = crcSteps j (R ^^^ s[k].toNat))) (fun _ i => 8 - (intOf i).toNat)
      case atStart => exact ⟨0, R ^^^ s[k].toNat, by omega, rfl, rfl, xor_lt32 hR (by omega), rfl⟩
      case round =>
        obtain ⟨j, X, hj, rfl, rfl, hX, hy⟩ := hrel
        by_cases hlt8 : j < 8
        · by_cases hp : X % 2 = 1
          · have HP : Hid (X % 2 = 1) := hp
            have hand : (bits .and .u32 (X : Int) 1 == 1) = true := by rw [u32_low _ hX, hp]; rfl
            clear hp
            go_wp2
            go_round
            case rel => exact ⟨j + 1, X / 2 ^^^ 3988292384, by omega, by go_num, val_int (u32_xorM X hX), xor_lt32 (by omega) (by omega), by show _ = crcStep _; rw [← hy.out, crcStep, if_pos HP.out]⟩
            case measure => simp [intOf]; omega
          · have HP : Hid (¬ X % 2 = 1) := hp
            have hand : (bits .and .u32 (X : Int) 1 == 1) = false := by rw [u32_low _ hX, show X % 2 = 0 by omega]; rfl
            clear hp
            go_wp2
            go_round
            case rel => exact ⟨j + 1, X / 2, by omega, by go_num, val_int (by omega), by omega, by show _ = crcStep _; rw [← hy.out, crcStep, if_neg HP.out]⟩
            case measure => simp [intOf]; omega
        · have HE : Hid (X = crcByte R s[k].toNat) := by
            have e : j = 8 := by omega
            subst e
            exact hy.out
          go_wp2
          go_round
          case rel => exact ⟨k + 1, X, by omega, by go_num, rfl, hX, by show X = crcReg _ _; rw [take_snoc s k hlt, crcReg_snoc, ← hx.out]; exact HE.out⟩
          case measure => simp [intOf]; omega
    · have hu := u32_ones R hR
      have he : Hid (4294967295 - R = crcOf c s.data.toList) := by show _ = _; rw [crcOf, hx.out, take_all s k hlt]
      go_wp2
      go_ret
      exact ⟨ret_int (by rw [he.out]), rfl⟩

theorem impl_crc (s : ByteArray) (w : World) (hs : s.size ≤ 8000) :
    Calls Tryz.prog 289 #[.string s] w fun e w' => e = .returned (.int .i64 (crcOf 0 s.data.toList : Nat)) ∧ w' = w := by
  have HC : Hid (∀ w, Calls Tryz.prog 294 #[.int .i64 0, .string s] w fun e w' => e = .returned (.int .i64 (crcOf 0 s.data.toList : Nat)) ∧ w' = w) := fun w => impl_crcMore 0 s w (by omega) hs
  go_enter Tryz.func289, Tryz.ntmps289
  go_wp2_with (first | (go_at_call 294; refine (HC.out _).mono ?_; rintro e w' ⟨rfl, rfl⟩))
  go_ret
  exact ⟨rfl, rfl⟩
end Go.Proofs.YtneiihikcnjglaaGreatDoor
/- Contracts for Seal. -/
namespace Go.Proofs.YtneiihikcnjglaaGreatDoor
open Go.RowKit

/-- The four bytes of a number, the lowest first. -/
def four (c : Nat) : List UInt8 := [UInt8.ofNat (c % 256), UInt8.ofNat (c / 256 % 256), UInt8.ofNat (c / 65536 % 256), UInt8.ofNat (c / 16777216 % 256)]
def sealBytes (l : List UInt8) : List UInt8 := l ++ four (crcOf 0 l)
theorem four_len (c : Nat) : (four c).length = 4 := rfl

theorem conv4 (w : World) (a b c d : Int) (l : List UInt8) (hl : [a, b, c, d] = l.map (fun x : UInt8 => (x.toNat : Int))) :
    (convert 231 9 (.slice (some ⟨w.heap.size, 0, none⟩) 4 4)).run Tryz.prog (w.alloc (.cells #[.int .u8 a, .int .u8 b, .int .u8 c, .int .u8 d] 5)) =
      .ok (.string ⟨l.toArray⟩) (w.alloc (.cells #[.int .u8 a, .int .u8 b, .int .u8 c, .int .u8 d] 5)) := by
  have hlen : l.length = 4 := by have := congrArg List.length hl; simpa using this.symm
  have hc : ([.int .u8 a, .int .u8 b, .int .u8 c, .int .u8 d] : List Value) = l.map bv := by
    have := congrArg (List.map (Value.int .u8)) hl
    rw [List.map_map] at this
    exact this
  have h := conv_own (P := Tryz.prog) (dst := 9) Tryz.underlying231 Tryz.underlying5 Tryz.underlying9 (owns_of_row (w := w.alloc (.cells #[.int .u8 a, .int .u8 b, .int .u8 c, .int .u8 d] 5)) (n := 4) (Nat.le_refl w.heap.size) (heap_alloc_new w _) hc hlen (by decide))
  exact h
theorem mk4 (w : World) : (Instr.makeSlice 231 (.int .i64 4) (.int .i64 4)).run Tryz.prog w = .ok (.slice (some ⟨w.heap.size, 0, none⟩) 4 4) (w.alloc (.cells #[.int .u8 0, .int .u8 0, .int .u8 0, .int .u8 0] 5)) := by kernel_rfl

set_option maxHeartbeats 1000000 in
theorem impl_sumText (c : Nat) (w : World) (hc : c < 4294967296) :
    Calls Tryz.prog 288 #[.int .i64 c] w fun e w' => e = .returned (.string ⟨(four c).toArray⟩) ∧ Below w.heap.size w w' := by
  have hmk := mk4
  have hcv := conv4 w ((c : Int) % 256) ((c : Int) / 256 % 256) ((c : Int) / 256 / 256 % 256) ((c : Int) / 256 / 256 / 256) (four c) (by simp [four]; omega)
  go_enter Tryz.func288, Tryz.ntmps288
  go_wp2
  refine wp_loop_rounds 5 ?_
  rw [rounds_succ]
  go_wp2
  rw [rounds_succ]
  go_wp2
  rw [rounds_succ]
  go_wp2
  rw [rounds_succ]
  go_wp2
  rw [rounds_succ]
  go_wp2
  go_ret
  exact ⟨rfl, (Below.refl _ _).alloc (Nat.le_refl _) _⟩
set_option maxHeartbeats 1000000 in
theorem spec_four (c : Nat) (w : World) (hc : c < 4294967296) :
    Calls Tryz.prog 233 #[.int .i64 c] w fun e w' => e = .returned (.string ⟨(four c).toArray⟩) ∧ Below w.heap.size w w' := by
  have hcv := conv4 w ((c : Int) % 256) ((c : Int) / 256 % 256) ((c : Int) / 65536 % 256) ((c : Int) / 16777216) (four c) (by simp [four]; omega)
  go_enter Tryz.func233, Tryz.ntmps233
  go_wp2
  go_ret
  exact ⟨rfl, (Below.refl _ _).alloc (Nat.le_refl _) _⟩

theorem impl_seal (s : ByteArray) (w : World) (hs : s.size ≤ 7996) :
    Calls Tryz.prog 274 #[.string s] w fun e w' => e = .returned (.string ⟨(sealBytes s.data.toList).toArray⟩) ∧ Below w.heap.size w w' := by
  go_enter Tryz.func274, Tryz.ntmps274
  go_wp2_with fail
  refine (impl_crc s _ (by omega)).mono ?_
  rintro e w1 ⟨rfl, rfl⟩
  go_wp2_with fail
  refine (impl_sumText _ _ (crcOf_lt _ _)).mono ?_
  rintro e w2 ⟨rfl, hb2⟩
  go_wp2_with fail
  refine (impl_joinTexts s _ _ (by rw [size_mk (four _), four_len]; omega)).mono ?_
  rintro e w3 ⟨rfl, hb3⟩
  go_wp2
  go_ret
  exact ⟨by simp [sealBytes], hb2.trans (hb3.mono hb2.size)⟩
theorem spec_seal (s : ByteArray) (w : World) (hs : s.size ≤ 7996) :
    Calls Tryz.prog 176 #[.string s] w fun e w' => e = .returned (.string ⟨(sealBytes s.data.toList).toArray⟩) ∧ Below w.heap.size w w' := by
  have HC : Hid (∀ w, Calls Tryz.prog 234 #[.int .i64 0, .string s] w fun e w' => e = .returned (.int .i64 (crcOf 0 s.data.toList : Nat)) ∧ w' = w) := fun w => spec_l01Crc 0 s w (by omega) (by omega)
  have hl : (four (crcOf 0 s.data.toList)).length ≤ 4 := Nat.le_refl _
  go_enter Tryz.func176, Tryz.ntmps176
  go_wp2_with fail
  refine (HC.out _).mono ?_
  rintro e w1 ⟨rfl, rfl⟩
  go_wp2_with fail
  refine (spec_four _ _ (crcOf_lt _ _)).mono ?_
  rintro e w2 ⟨rfl, hb2⟩
  go_wp2
  go_ret
  exact ⟨ret_string ((cat_eq' s _).trans rfl), hb2⟩
end Go.Proofs.YtneiihikcnjglaaGreatDoor
