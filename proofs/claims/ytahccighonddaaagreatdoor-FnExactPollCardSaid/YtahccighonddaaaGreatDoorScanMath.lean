namespace Go.Proofs.YtahccighonddaaaGreatDoor
def vb : Nat → Nat → List UInt8
  | 0,u => [UInt8.ofNat u]
  | f + 1,u => if u < 128 then [UInt8.ofNat u] else UInt8.ofNat (u % 128 + 128) :: vb f (u / 128)
def fold64 (n : Int) : Nat := if 0 ≤ n then (2 * n).toNat else (-2 * n - 1).toNat
def numBytes (n : Int) : List UInt8 := vb 9 (fold64 n)
theorem vb_step {f u : Nat} (h : ¬ u < 128) : vb (f + 1) u = UInt8.ofNat (u % 128 + 128) :: vb f (u / 128) := by rw [vb,if_neg h]
theorem vb_end {f u : Nat} (h : u < 128) : vb f u = [UInt8.ofNat u] := by
  cases f
  · rfl
  · rw [vb,if_pos h]
theorem vb_len : ∀ (f u : Nat),1 ≤ (vb f u).length ∧ (vb f u).length ≤ f + 1
  | 0,_ => ⟨Nat.le_refl _,Nat.le_refl _⟩
  | f + 1,u => by
    have := vb_len f (u / 128)
    rw [vb]
    split <;> simp <;> omega
def room : Nat → Nat
  | 0 => 18446744073709551616
  | k + 1 => room k / 128
theorem room_step {k u : Nat} (h : u < room k) (h128 : ¬ u < 128) (hk : k ≤ 9) : k + 1 ≤ 9 ∧ u / 128 < room (k + 1) := by
  have h9 : room 9 = 2 := by decide
  constructor
  · rcases Nat.lt_or_ge k 9 with h' | h'
    · omega
    · have e : k = 9 := by omega
      subst e
      omega
  · show u / 128 < room k / 128
    rcases (show k = 0 ∨ k = 1 ∨ k = 2 ∨ k = 3 ∨ k = 4 ∨ k = 5 ∨ k = 6 ∨ k = 7 ∨ k = 8 ∨ k = 9 by omega) with e | e | e | e | e | e | e | e | e | e <;> subst e <;> simp only [room] at h ⊢ <;> omega
theorem fold64_lt (n : Int) (h1 : -9223372036854775808 ≤ n) (h2 : n ≤ 9223372036854775807) : fold64 n < 18446744073709551616 := by
  unfold fold64
  split <;> omega
theorem fold64_pos (n : Int) (h : 0 ≤ n) : ((fold64 n : Nat) : Int) = 2 * n := by unfold fold64; rw [if_pos h]; omega
theorem fold64_neg (n : Int) (h : n < 0) : ((fold64 n : Nat) : Int) = 2 * (-(n + 1)) + 1 := by unfold fold64; rw [if_neg (by omega)]; omega
end Go.Proofs.YtahccighonddaaaGreatDoor
namespace Go.Proofs.YtahccighonddaaaGreatDoor
def scan : List UInt8 → Nat → Nat → Nat × Nat × Nat
  | [],_,_ => (0,0,4)
  | b :: r,k,U =>
    if b.toNat < 128 ∨ k = 9 then
      (if k = 9 ∧ 1 < b.toNat then (0,0,3) else if 0 < k ∧ b.toNat = 0 then (0,0,3) else (U + b.toNat * 128 ^ k,k + 1,0))
    else scan r (k + 1) (U + (b.toNat - 128) * 128 ^ k)
theorem scan_more {b : UInt8} {r : List UInt8} {k U : Nat} (h : ¬ b.toNat < 128) (hk : ¬ k = 9) : scan (b :: r) k U = scan r (k + 1) (U + (b.toNat - 128) * 128 ^ k) := by
  rw [scan,if_neg (by omega)]
theorem scan_wrong9 {b : UInt8} {r : List UInt8} {U : Nat} (h : 1 < b.toNat) : scan (b :: r) 9 U = (0,0,3) := by
  rw [scan,if_pos (.inr rfl),if_pos ⟨rfl,h⟩]
theorem scan_wrong0 {b : UInt8} {r : List UInt8} {k U : Nat} (h : b.toNat = 0) (hk : 0 < k) : scan (b :: r) k U = (0,0,3) := by
  rw [scan,if_pos (.inl (by omega)),if_neg (by omega),if_pos ⟨hk,h⟩]
theorem scan_last {b : UInt8} {r : List UInt8} {k U : Nat} (h : b.toNat < 128) (h9 : k = 9 → b.toNat ≤ 1) (h0 : ¬ (0 < k ∧ b.toNat = 0)) : scan (b :: r) k U = (U + b.toNat * 128 ^ k,k + 1,0) := by
  rw [scan,if_pos (.inl h),if_neg (by omega),if_neg h0]
theorem pow_step {U k x : Nat} (h : U < 128 ^ k) (hx : x < 128) : U + x * 128 ^ k < 128 ^ (k + 1) := by
  rw [Nat.pow_succ]
  have h1 : x * 128 ^ k ≤ 127 * 128 ^ k := Nat.mul_le_mul_right _ (by omega)
  omega
theorem pow_le {k : Nat} (hk : k ≤ 9) : 128 ^ k ≤ 9223372036854775808 := Nat.pow_le_pow_right (n := 128) (by omega) hk
def unfold64 (u : Nat) : Int := if u % 2 = 0 then (u / 2 : Nat) else -((u / 2 : Nat) : Int) - 1
end Go.Proofs.YtahccighonddaaaGreatDoor
