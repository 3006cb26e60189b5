namespace Go.Proofs.YtahccighonddaaaGreatDoor
def crcStep (x : Nat) : Nat := if x % 2 = 1 then (x / 2) ^^^ 3988292384 else x / 2
def crcSteps : Nat → Nat → Nat
  | 0,x => x
  | k + 1,x => crcStep (crcSteps k x)
def crcByte (r b : Nat) : Nat := crcSteps 8 (r ^^^ b)
def crcReg (r : Nat) (l : List UInt8) : Nat := l.foldl (fun r b => crcByte r b.toNat) r
def crcOf (c : Nat) (l : List UInt8) : Nat := 4294967295 - crcReg (4294967295 - c) l
theorem xor_lt32 {a b : Nat} (ha : a < 4294967296) (hb : b < 4294967296) : a ^^^ b < 4294967296 := Nat.xor_lt_two_pow (n := 32) ha hb
theorem crcStep_lt {x : Nat} (h : x < 4294967296) : crcStep x < 4294967296 := by
  unfold crcStep
  split
  · exact xor_lt32 (by omega) (by decide)
  · omega
theorem crcSteps_lt : ∀ (k : Nat) {x : Nat},x < 4294967296 → crcSteps k x < 4294967296
  | 0,_,h => h
  | k + 1,_,h => crcStep_lt (crcSteps_lt k h)
theorem crcByte_lt {r b : Nat} (hr : r < 4294967296) (hb : b < 256) : crcByte r b < 4294967296 := crcSteps_lt 8 (xor_lt32 hr (by omega))
theorem crcReg_snoc (r : Nat) (l : List UInt8) (b : UInt8) : crcReg r (l ++ [b]) = crcByte (crcReg r l) b.toNat := by simp [crcReg]
theorem crcOf_lt (c : Nat) (l : List UInt8) : crcOf c l < 4294967296 := by unfold crcOf; omega
theorem xor_half (a b : Nat) : (a ^^^ b) / 2 = a / 2 ^^^ b / 2 := by
  have h := Nat.shiftRight_xor_distrib (a := a) (b := b) (i := 1)
  simpa [Nat.shiftRight_eq_div_pow] using h
theorem step_apart_one {r b : Nat} (h : (r ^^^ b) % 2 = 1) : (r / 2 ^^^ 3988292384) ^^^ (b / 2) = crcStep (r ^^^ b) := by
  rw [crcStep,if_pos h,xor_half,Nat.xor_assoc,Nat.xor_comm 3988292384 (b / 2),← Nat.xor_assoc]
theorem step_apart_zero {r b : Nat} (h : ¬ (r ^^^ b) % 2 = 1) : (r / 2) ^^^ (b / 2) = crcStep (r ^^^ b) := by
  rw [crcStep,if_neg h,xor_half]
theorem xor_ones (x : Nat) (h : x < 4294967296) : x ^^^ 4294967295 = 4294967295 - x := by
  apply Nat.eq_of_testBit_eq
  intro i
  have e : 4294967295 - x = 2 ^ 32 - (x + 1) := by omega
  rw [e,Nat.testBit_two_pow_sub_succ (by omega),Nat.testBit_xor,show (4294967295 : Nat) = 2 ^ 32 - 1 from rfl,Nat.testBit_two_pow_sub_one]
  by_cases hi : i < 32
  · simp [hi]
  · have h' : x < 2 ^ 32 := h
    have : x.testBit i = false := Nat.testBit_lt_two_pow (Nat.lt_of_lt_of_le h' (Nat.pow_le_pow_right (n := 2) (by omega) (by omega : 32 ≤ i)))
    simp [hi,this]
end Go.Proofs.YtahccighonddaaaGreatDoor
