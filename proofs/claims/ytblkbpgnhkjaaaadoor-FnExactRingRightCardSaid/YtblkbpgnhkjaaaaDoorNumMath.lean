/- A number's bytes, as plain mathematics. -/
namespace Go.Proofs.YtblkbpgnhkjaaaaDoor

/-- Seven bits a byte, the lowest first; the first argument bounds how many bytes there may be. -/
def vb : Nat → Nat → List UInt8
  | 0, u => [UInt8.ofNat u]
  | f + 1, u => if u < 128 then [UInt8.ofNat u] else UInt8.ofNat (u % 128 + 128) :: vb f (u / 128)
/-- The number as one from 0 on. -/
def fold64 (n : Int) : Nat := if 0 ≤ n then (2 * n).toNat else (-2 * n - 1).toNat
def numBytes (n : Int) : List UInt8 := vb 9 (fold64 n)

theorem vb_step {f u : Nat} (h : ¬ u < 128) : vb (f + 1) u = UInt8.ofNat (u % 128 + 128) :: vb f (u / 128) := by rw [vb, if_neg h]
theorem vb_end {f u : Nat} (h : u < 128) : vb f u = [UInt8.ofNat u] := by
  cases f
  · rfl
  · rw [vb, if_pos h]
theorem vb_len : ∀ (f u : Nat), 1 ≤ (vb f u).length ∧ (vb f u).length ≤ f + 1
  | 0, _ => ⟨Nat.le_refl _, Nat.le_refl _⟩
  | f + 1, u => by
    have := vb_len f (u / 128)
    rw [vb]
    split <;> simp <;> omega
/-- What u may be behind k bytes: below 2^(64 - 7k). -/
def room : Nat → Nat
  | 0 => 18446744073709551616
  | k + 1 => room k / 128
theorem room_step {k u : Nat} (h : u < room k) (h128 : ¬ u < 128) (hk : k ≤ 9) : k + 1 ≤ 9 ∧ u / 128 < room (k + 1) := by
  have h9 : room 9 = 2 := by decide
  constructor
  · rcases Nat.lt_or_ge k 9 with h' | h'
    · omega
    · have e : k = 9 := by omega
      subst e
      omega
  · show u / 128 < room k / 128
    rcases (show k = 0 ∨ k = 1 ∨ k = 2 ∨ k = 3 ∨ k = 4 ∨ k = 5 ∨ k = 6 ∨ k = 7 ∨ k = 8 ∨ k = 9 by omega) with e | e | e | e | e | e | e | e | e | e <;> subst e <;> simp only [room] at h ⊢ <;> omega
theorem fold64_lt (n : Int) (h1 : -9223372036854775808 ≤ n) (h2 : n ≤ 9223372036854775807) : fold64 n < 18446744073709551616 := by
  unfold fold64
  split <;> omega
theorem fold64_pos (n : Int) (h : 0 ≤ n) : ((fold64 n : Nat) : Int) = 2 * n := by unfold fold64; rw [if_pos h]; omega
theorem fold64_neg (n : Int) (h : n < 0) : ((fold64 n : Nat) : Int) = 2 * (-(n + 1)) + 1 := by unfold fold64; rw [if_neg (by omega)]; omega
end Go.Proofs.YtblkbpgnhkjaaaaDoor
