/- With one byte turned a sealed text is no seal any more: plain mathematics. -/
import Derived.Test.YtgjckpgecmklkaaCrcMath
namespace Go.Proofs.Ytgjckpgecmklkaa

theorem xor_cancel {a b c : Nat} (h : a ^^^ c = b ^^^ c) : a = b := by
  have := congrArg (· ^^^ c) h
  simpa [Nat.xor_assoc] using this
theorem top_bit {x : Nat} (h : x < 2147483648) : (x ^^^ 3988292384).testBit 31 = true := by
  have hx : x.testBit 31 = false := Nat.testBit_lt_two_pow (by simpa using h)
  rw [Nat.testBit_xor, hx]
  decide
theorem crcStep_inj {x y : Nat} (hx : x < 4294967296) (hy : y < 4294967296) (h : crcStep x = crcStep y) : x = y := by
  unfold crcStep at h
  by_cases px : x % 2 = 1
  · by_cases py : y % 2 = 1
    · rw [if_pos px, if_pos py] at h
      have := xor_cancel h
      omega
    · rw [if_pos px, if_neg py] at h
      have t := top_bit (x := x / 2) (by omega)
      rw [h, Nat.testBit_lt_two_pow (show y / 2 < 2 ^ 31 by omega)] at t
      cases t
  · by_cases py : y % 2 = 1
    · rw [if_neg px, if_pos py] at h
      have t := top_bit (x := y / 2) (by omega)
      rw [← h, Nat.testBit_lt_two_pow (show x / 2 < 2 ^ 31 by omega)] at t
      cases t
    · rw [if_neg px, if_neg py] at h
      omega
theorem crcSteps_inj : ∀ (k : Nat) {x y : Nat}, x < 4294967296 → y < 4294967296 → crcSteps k x = crcSteps k y → x = y
  | 0, _, _, _, _, h => h
  | k + 1, _, _, hx, hy, h => crcSteps_inj k hx hy (crcStep_inj (crcSteps_lt k hx) (crcSteps_lt k hy) h)
theorem crcByte_inj_r {r s b : Nat} (hr : r < 4294967296) (hs : s < 4294967296) (hb : b < 256) (h : crcByte r b = crcByte s b) : r = s :=
  xor_cancel (crcSteps_inj 8 (xor_lt32 hr (by omega)) (xor_lt32 hs (by omega)) h)
theorem crcByte_inj_b {r b c : Nat} (hr : r < 4294967296) (hb : b < 256) (hc : c < 256) (h : crcByte r b = crcByte r c) : b = c := by
  have := crcSteps_inj 8 (xor_lt32 hr (by omega)) (xor_lt32 hr (by omega)) h
  rw [Nat.xor_comm r b, Nat.xor_comm r c] at this
  exact xor_cancel this
theorem crcReg_inj : ∀ (l : List UInt8) {r s : Nat}, r < 4294967296 → s < 4294967296 → crcReg r l = crcReg s l → r = s
  | [], _, _, _, _, h => h
  | b :: l, _, _, hr, hs, h => crcByte_inj_r hr hs b.toNat_lt (crcReg_inj l (crcByte_lt hr b.toNat_lt) (crcByte_lt hs b.toNat_lt) h)
/-- One byte turned: another register. -/
theorem crcReg_set : ∀ (l : List UInt8) (i : Nat) (b : UInt8) {r : Nat} (hi : i < l.length), r < 4294967296 → crcReg r (l.set i b) = crcReg r l → l[i] = b
  | c :: l, 0, b, r, _, hr, h => by
    have h' : crcReg (crcByte r b.toNat) l = crcReg (crcByte r c.toNat) l := h
    have h2 := crcReg_inj l (crcByte_lt hr b.toNat_lt) (crcByte_lt hr c.toNat_lt) h'
    have h3 := crcByte_inj_b hr b.toNat_lt c.toNat_lt h2
    exact UInt8.toNat_inj.1 h3.symm
  | c :: l, i + 1, b, r, hi, hr, h => by
    have h' : crcReg (crcByte r c.toNat) (l.set i b) = crcReg (crcByte r c.toNat) l := h
    have := crcReg_set l i b (by simpa using hi) (crcByte_lt hr c.toNat_lt) h'
    simpa using this
/-- A CRC goes on from text to text. -/
theorem crcOf_append (l m : List UInt8) : crcOf (crcOf 0 l) m = crcOf 0 (l ++ m) := by
  have h := crcReg_lt l (r := 4294967295) (by omega)
  unfold crcOf
  have e : 4294967295 - (4294967295 - crcReg (4294967295 - 0) l) = crcReg 4294967295 l := by
    show 4294967295 - (4294967295 - crcReg 4294967295 l) = _
    omega
  rw [e, crcReg_append]
theorem crcOf_inj {l m : List UInt8} (h : crcOf 0 l = crcOf 0 m) : crcReg 4294967295 l = crcReg 4294967295 m := by
  have h1 := crcReg_lt l (r := 4294967295) (by omega)
  have h2 := crcReg_lt m (r := 4294967295) (by omega)
  have h' : 4294967295 - crcReg 4294967295 l = 4294967295 - crcReg 4294967295 m := h
  omega
end Go.Proofs.Ytgjckpgecmklkaa
