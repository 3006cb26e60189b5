/- RingNew, of the program and of the specification. -/
import Derived.Test.YtopbfjdjlgecpaaGreatDoorRingRows
namespace Go.Proofs.YtopbfjdjlgecpaaGreatDoor
open Go.RowKit
def newCap (n : Int) : Int := if capB n then n else 0
def newCode (n : Int) : Int := if capB n then 0 else 1
abbrev newOut (n : Int) : Value := ringOutV (newCap n) 0 none 0 0 none 0 0 0 0 ⟨#[]⟩ (newCode n)
theorem cap_n (n : Int) (w : World) : Calls Tryz.prog 71 #[.int .i64 n] w fun e w' => e = .returned (.bool (capB n)) ∧ w' = w := by
  by_cases h1 : n = 4
  · subst h1
    go_enter Tryz.func71, Tryz.ntmps71
    go_wp2
    go_ret
    exact ⟨rfl, rfl⟩
  by_cases h2 : n = 8
  · subst h2
    go_enter Tryz.func71, Tryz.ntmps71
    go_wp2
    go_ret
    exact ⟨rfl, rfl⟩
  have e1 : (n == 4) = false := by rw [beq_eq_false_iff_ne]; exact h1
  have e2 : (n == 8) = false := by rw [beq_eq_false_iff_ne]; exact h2
  clear h1 h2
  go_enter Tryz.func71, Tryz.ntmps71
  go_wp2
  go_ret
  exact ⟨ret_bool (by simp [capB, e1, e2]), rfl⟩
theorem cap_r (n : Int) (w : World) : Calls Tryz.prog 70 #[.int .i64 n] w fun e w' => e = .returned (.bool (capB n)) ∧ w' = w := by
  by_cases h1 : n = 4
  · subst h1
    go_enter Tryz.func70, Tryz.ntmps70
    go_wp2
    go_ret
    exact ⟨rfl, rfl⟩
  by_cases h2 : n = 8
  · subst h2
    go_enter Tryz.func70, Tryz.ntmps70
    go_wp2
    go_ret
    exact ⟨rfl, rfl⟩
  have e1 : (n == 4) = false := by rw [beq_eq_false_iff_ne]; exact h1
  have e2 : (n == 8) = false := by rw [beq_eq_false_iff_ne]; exact h2
  clear h1 h2
  go_enter Tryz.func70, Tryz.ntmps70
  go_wp2
  go_ret
  exact ⟨ret_bool (by simp [capB, e1, e2]), rfl⟩
theorem spec_ill (c : Int) (w : World) : Calls Tryz.prog 59 #[.int .i64 c] w fun e w' => e = .returned (ringIll c) ∧ Below w.heap.size w w' := by
  go_enter Tryz.func59, Tryz.ntmps59
  go_wp2
  exact bodyPost_ret (v := ringIll c) (by simp [results, Tryz.results59, go_sem]) rfl ⟨rfl, (Below.refl _ _).alloc (Nat.le_refl _) _⟩
theorem spec_ringNew (n : Int) (w : World) : Calls Tryz.prog 25 #[.int .i64 n] w fun e w' => e = .returned (newOut n) ∧ Below w.heap.size w w' := by
  have HC : Hid _ := fun w => cap_n n w
  cases h : capB n
  · have hE1 : Hid (newCap n = 0) := show _ = _ by simp [newCap, h]
    have hE2 : Hid (newCode n = 1) := show _ = _ by simp [newCode, h]
    rw [h] at HC
    clear h
    go_enter Tryz.func25, Tryz.ntmps25
    go_wp2_with fail
    refine (HC.out _).mono ?_
    rintro e w1 ⟨rfl, rfl⟩
    go_wp2_with fail
    refine (spec_ill 1 _).mono ?_
    rintro e w2 ⟨rfl, hb2⟩
    have hc2 := fun o => hb2.cell (p := ⟨w.heap.size, o, none⟩) (by simp)
    have hf2 := fun o => hb2.frozen (p := ⟨w.heap.size, o, none⟩) (by simp)
    have hB : Hid (Below w.heap.size w w2) := below_tr ((Below.refl _ _).alloc (Nat.le_refl _) _) hb2
    clear hb2
    go_wp2
    exact bodyPost_ret (v := ringIll 1) (by simp [results, Tryz.results25, go_sem, hc2]) rfl ⟨by rw [newOut, hE1.out, hE2.out], below_set8 hB.out _ (Nat.le_refl _) _ _ _ _ _ _ _ _⟩
  · have hE1 : Hid (newCap n = n) := show _ = _ by simp [newCap, h]
    have hE2 : Hid (newCode n = 0) := show _ = _ by simp [newCode, h]
    rw [h] at HC
    clear h
    go_enter Tryz.func25, Tryz.ntmps25
    go_wp2_with fail
    refine (HC.out _).mono ?_
    rintro e w1 ⟨rfl, rfl⟩
    go_wp2
    exact bodyPost_ret (v := ringOutV n 0 none 0 0 none 0 0 0 0 ⟨#[]⟩ 0) (by simp [results, Tryz.results25, go_sem]) rfl ⟨by rw [newOut, hE1.out, hE2.out], (Below.refl _ _).alloc (Nat.le_refl _) _⟩
theorem impl_ringNew (n : Int) (w : World) : Calls Tryz.prog 24 #[.int .i64 n] w fun e w' => e = .returned (newOut n) ∧ Below w.heap.size w w' := by
  have HC : Hid _ := fun w => cap_r n w
  cases h : capB n
  · have hE1 : Hid (newCap n = 0) := show _ = _ by simp [newCap, h]
    have hE2 : Hid (newCode n = 1) := show _ = _ by simp [newCode, h]
    rw [h] at HC
    clear h
    go_enter Tryz.func24, Tryz.ntmps24
    go_wp2_with fail
    refine (HC.out _).mono ?_
    rintro e w1 ⟨rfl, rfl⟩
    go_wp2
    exact bodyPost_ret (v := ringIll 1) (by simp [results, Tryz.results24, go_sem]) rfl ⟨by rw [newOut, hE1.out, hE2.out], (Below.refl _ _).alloc (Nat.le_refl _) _⟩
  · have hE1 : Hid (newCap n = n) := show _ = _ by simp [newCap, h]
    have hE2 : Hid (newCode n = 0) := show _ = _ by simp [newCode, h]
    rw [h] at HC
    clear h
    go_enter Tryz.func24, Tryz.ntmps24
    go_wp2_with fail
    refine (HC.out _).mono ?_
    rintro e w1 ⟨rfl, rfl⟩
    go_wp2
    exact bodyPost_ret (v := ringOutV n 0 none 0 0 none 0 0 0 0 ⟨#[]⟩ 0) (by simp [results, Tryz.results24, go_sem]) rfl ⟨by rw [newOut, hE1.out, hE2.out], (Below.refl _ _).alloc (Nat.le_refl _) _⟩
end Go.Proofs.YtopbfjdjlgecpaaGreatDoor
