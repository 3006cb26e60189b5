/- Reading a number's bytes, as plain mathematics. -/
import Derived.Test.YtblkbpgnhkjaaaaDoorNumMath
namespace Go.Proofs.YtblkbpgnhkjaaaaDoor

/-- What is read off the bytes l, k bytes having been read to U: the number, how many bytes, the code. -/
def scan : List UInt8 → Nat → Nat → Nat × Nat × Nat
  | [], _, _ => (0, 0, 4)
  | b :: r, k, U =>
    if b.toNat < 128 ∨ k = 9 then
      (if k = 9 ∧ 1 < b.toNat then (0, 0, 3) else if 0 < k ∧ b.toNat = 0 then (0, 0, 3) else (U + b.toNat * 128 ^ k, k + 1, 0))
    else scan r (k + 1) (U + (b.toNat - 128) * 128 ^ k)
theorem scan_more {b : UInt8} {r : List UInt8} {k U : Nat} (h : ¬ b.toNat < 128) (hk : ¬ k = 9) : scan (b :: r) k U = scan r (k + 1) (U + (b.toNat - 128) * 128 ^ k) := by
  rw [scan, if_neg (by omega)]
theorem scan_wrong9 {b : UInt8} {r : List UInt8} {U : Nat} (h : 1 < b.toNat) : scan (b :: r) 9 U = (0, 0, 3) := by
  rw [scan, if_pos (.inr rfl), if_pos ⟨rfl, h⟩]
theorem scan_wrong0 {b : UInt8} {r : List UInt8} {k U : Nat} (h : b.toNat = 0) (hk : 0 < k) : scan (b :: r) k U = (0, 0, 3) := by
  rw [scan, if_pos (.inl (by omega)), if_neg (by omega), if_pos ⟨hk, h⟩]
theorem scan_last {b : UInt8} {r : List UInt8} {k U : Nat} (h : b.toNat < 128) (h9 : k = 9 → b.toNat ≤ 1) (h0 : ¬ (0 < k ∧ b.toNat = 0)) : scan (b :: r) k U = (U + b.toNat * 128 ^ k, k + 1, 0) := by
  rw [scan, if_pos (.inl h), if_neg (by omega), if_neg h0]
theorem pow_step {U k x : Nat} (h : U < 128 ^ k) (hx : x < 128) : U + x * 128 ^ k < 128 ^ (k + 1) := by
  rw [Nat.pow_succ]
  have h1 : x * 128 ^ k ≤ 127 * 128 ^ k := Nat.mul_le_mul_right _ (by omega)
  omega
theorem pow_le {k : Nat} (hk : k ≤ 9) : 128 ^ k ≤ 9223372036854775808 := Nat.pow_le_pow_right (n := 128) (by omega) hk
/-- The number's sign, back. -/
def unfold64 (u : Nat) : Int := if u % 2 = 0 then (u / 2 : Nat) else -((u / 2 : Nat) : Int) - 1
end Go.Proofs.YtblkbpgnhkjaaaaDoor
