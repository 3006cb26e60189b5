/- A ring at work: whether its sizes are right. -/
import Derived.Test.YtblkbpgnhkjaaaaDoorRingWork2
namespace Go.Proofs.YtblkbpgnhkjaaaaDoor
open Go.RowKit
variable {cap first : Int} {ra ca : Option Addr} {rl rc cl cc : Nat}
def sizesB (cap first : Int) (rl cl : Nat) : Bool := capB cap && decide (0 ≤ first ∧ first ≤ 1000000) && decide ((rl : Int) ≤ cap) && decide (first + (rl : Int) ≤ 1000000) && decide (cl ≤ 4)
theorem capB_le {n : Int} (h : capB n = true) : 4 ≤ n ∧ n ≤ 16 := by simp [capB] at h; omega
set_option maxRecDepth 100000 in
set_option maxHeartbeats 4000000 in
theorem impl_sizesRight (b : Nat) (d st l : Int) (w : World) (hw : Work w b cap first ra rl rc ca cl cc d st l) (hl : rl ≤ 1048576) (hcl : cl ≤ 1048576) :
    Calls Tryd.prog 38 #[.pointer (some ⟨b, 0, none⟩)] w fun e w' => e = .returned (.bool (sizesB cap first rl cl)) ∧ Below w.heap.size w w' := by
  obtain ⟨c0, c1, c2, c3, c4, c5, c6, c7⟩ := work_cells hw
  have HW : Hid (Work w b cap first ra rl rc ca cl cc d st l) := hw
  have hlt := hw.lt
  have HC : Hid _ := fun w => impl_cap cap w
  have HT : Hid _ := fun w => impl_time first w
  clear hw
  by_cases h1 : capB cap = true
  · have hcb := capB_le h1
    rw [h1] at HC
    by_cases h2 : 0 ≤ first ∧ first ≤ 1000000
    · rw [decide_eq_true h2] at HT
      by_cases h3 : (rl : Int) ≤ cap
      · have HT2 : Hid _ := fun w => impl_time (first + (rl : Int)) w
        by_cases h4 : first + (rl : Int) ≤ 1000000
        · rw [decide_eq_true (show 0 ≤ first + (rl : Int) ∧ first + (rl : Int) ≤ 1000000 by omega)] at HT2
          have hE : Hid (sizesB cap first rl cl = decide ((cl : Int) ≤ 4)) := show _ = _ by
            rw [Bool.eq_iff_iff]
            simp [sizesB, h1, h2, h3, h4]
            omega
          clear h1
          go_enter Tryd.func38, Tryd.ntmps38
          go_wp2_with fail
          refine (HC.out _).mono ?_
          rintro e w1 ⟨rfl, hw1⟩
          rw [hw1]
          clear hw1 w1
          go_wp2_with fail
          refine (HT.out _).mono ?_
          rintro e w1 ⟨rfl, hw1⟩
          rw [hw1]
          clear hw1 w1
          go_wp2_with fail
          refine (impl_room b d st l _ HW.out (by omega) hl).mono ?_
          rintro e w1 ⟨rfl, hb1⟩
          have HW1 : Hid _ := HW.out.below hb1
          have hB1 : Hid (Below w.heap.size w w1) := hb1
          have hlt1 := Nat.lt_of_lt_of_le hlt hb1.size
          clear hb1
          go_wp2_with fail
          refine (impl_end b d st l _ HW1.out h2 hl).mono ?_
          rintro e w2 ⟨rfl, hb2⟩
          have d3 := (hb2.cell (p := ⟨b, 3, none⟩) hlt1).trans ((hB1.out.cell (p := ⟨b, 3, none⟩) hlt).trans c3)
          have hB2 : Hid (Below w.heap.size w w2) := below_tr hB1.out hb2
          clear hb2
          go_wp2_with fail
          refine (HT2.out _).mono ?_
          rintro e w3 ⟨rfl, hw1⟩
          rw [hw1]
          clear hw1 w3
          go_wp2
          go_ret
          exact ⟨ret_bool hE.out.symm, hB2.out⟩
        · rw [decide_eq_false (show ¬ (0 ≤ first + (rl : Int) ∧ first + (rl : Int) ≤ 1000000) by omega)] at HT2
          have hE : Hid (sizesB cap first rl cl = false) := show _ = _ by simp [sizesB, h4]
          clear h1
          go_enter Tryd.func38, Tryd.ntmps38
          go_wp2_with fail
          refine (HC.out _).mono ?_
          rintro e w1 ⟨rfl, hw1⟩
          rw [hw1]
          clear hw1 w1
          go_wp2_with fail
          refine (HT.out _).mono ?_
          rintro e w1 ⟨rfl, hw1⟩
          rw [hw1]
          clear hw1 w1
          go_wp2_with fail
          refine (impl_room b d st l _ HW.out (by omega) hl).mono ?_
          rintro e w1 ⟨rfl, hb1⟩
          have HW1 : Hid _ := HW.out.below hb1
          have hB1 : Hid (Below w.heap.size w w1) := hb1
          clear hb1
          go_wp2_with fail
          refine (impl_end b d st l _ HW1.out h2 hl).mono ?_
          rintro e w2 ⟨rfl, hb2⟩
          have hB2 : Hid (Below w.heap.size w w2) := below_tr hB1.out hb2
          clear hb2
          go_wp2_with fail
          refine (HT2.out _).mono ?_
          rintro e w3 ⟨rfl, hw1⟩
          rw [hw1]
          clear hw1 w3
          go_wp2
          go_ret
          exact ⟨ret_bool hE.out.symm, hB2.out⟩
      · have hE : Hid (sizesB cap first rl cl = false) := show _ = _ by simp [sizesB, h3]
        clear h1
        go_enter Tryd.func38, Tryd.ntmps38
        go_wp2_with fail
        refine (HC.out _).mono ?_
        rintro e w1 ⟨rfl, hw1⟩
        rw [hw1]
        clear hw1 w1
        go_wp2_with fail
        refine (HT.out _).mono ?_
        rintro e w1 ⟨rfl, hw1⟩
        rw [hw1]
        clear hw1 w1
        go_wp2_with fail
        refine (impl_room b d st l _ HW.out (by omega) hl).mono ?_
        rintro e w1 ⟨rfl, hb1⟩
        have hB1 : Hid (Below w.heap.size w w1) := hb1
        clear hb1
        go_wp2
        go_ret
        exact ⟨ret_bool hE.out.symm, hB1.out⟩
    · rw [decide_eq_false h2] at HT
      have hE : Hid (sizesB cap first rl cl = false) := show _ = _ by simp [sizesB, h2]
      clear h1 h2
      go_enter Tryd.func38, Tryd.ntmps38
      go_wp2_with fail
      refine (HC.out _).mono ?_
      rintro e w1 ⟨rfl, hw1⟩
      rw [hw1]
      clear hw1 w1
      go_wp2_with fail
      refine (HT.out _).mono ?_
      rintro e w1 ⟨rfl, hw1⟩
      rw [hw1]
      clear hw1 w1
      go_wp2
      go_ret
      exact ⟨ret_bool hE.out.symm, Below.refl _ _⟩
  · have h1' : capB cap = false := by simpa using h1
    rw [h1'] at HC
    have hE : Hid (sizesB cap first rl cl = false) := show _ = _ by simp [sizesB, h1']
    clear h1 h1'
    go_enter Tryd.func38, Tryd.ntmps38
    go_wp2_with fail
    refine (HC.out _).mono ?_
    rintro e w1 ⟨rfl, hw1⟩
    rw [hw1]
    clear hw1 w1
    go_wp2
    go_ret
    exact ⟨ret_bool hE.out.symm, Below.refl _ _⟩
end Go.Proofs.YtblkbpgnhkjaaaaDoor
