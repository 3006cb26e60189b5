/- The specification's TxnRight. -/
import Derived.Test.YtgjomkgbpfklkaaTxnSpec
namespace Go.Proofs.Ytgjomkgbpfklkaa
open Go.RowKit
variable {p e s u : Int} {ra la : Option Addr} {rl rc ll lc : Nat}

/-- What is handed in of a transaction. -/
structure TIn (w : World) (ra : Option Addr) (rl : Nat) (la : Option Addr) (ll : Nat) (rs ls : List Int) : Prop where
  rs : Nums w ra rl rs
  ls : Nums w la ll ls
  rle : rl ≤ 1048576
  lle : ll ≤ 1048576
theorem TIn.below {w w' : World} {rs ls : List Int} (h : TIn w ra rl la ll rs ls) (hb : Below w.heap.size w w') : TIn w' ra rl la ll rs ls := ⟨nums_below h.rs hb, nums_below h.ls hb, h.rle, h.lle⟩
def inTo2 (rs ls : List Int) (k : Nat) : Prop := ∀ j, j < k → ∀ (h : j < ls.length), hasB rs ls[j] = true
theorem in2_no {rs ls : List Int} {k : Nat} (hk : k < ls.length) (h : hasB rs ls[k] = false) : ls.all (hasB rs) = false := by
  rw [List.all_eq_false]
  exact ⟨ls[k], List.getElem_mem hk, by simp [h]⟩
theorem in2_yes {rs ls : List Int} {k : Nat} (hk : ls.length ≤ k) (h : inTo2 rs ls k) : ls.all (hasB rs) = true := by
  rw [List.all_eq_true]
  intro x hx
  obtain ⟨j, hj, rfl⟩ := List.getElem_of_mem hx
  exact h j (by omega) hj
set_option maxRecDepth 100000 in
set_option maxHeartbeats 4000000 in
theorem spec_txnRight (rs ls : List Int) (w : World) (hi : TIn w ra rl la ll rs ls) :
    Calls Try.prog 15 #[txnV p e s u ra rl rc la ll lc] w fun x w' => x = .returned (.bool (txnRightB p e s u rs ls)) ∧ Below w.heap.size w w' := by
  have HI : Hid (TIn w ra rl la ll rs ls) := hi
  have hrl : rl ≤ 1048576 := hi.rle
  have hll : ll ≤ 1048576 := hi.lle
  have HL : Hid (ls.length = ll) := hi.ls.1
  clear hi
  have HB0 : Hid (Below w.heap.size w (w.alloc (txnObj p e s u ra rl rc la ll lc))) := tbelow_new _ _
  have H1 : Hid _ := fun w => tspec_is p 1 4 w
  have H2 : Hid _ := fun w => tspec_is e 1 1000000 w
  have H3 : Hid _ := fun w => tspec_is s 1 3 w
  have H4 : Hid _ := fun w => tspec_time u w
  by_cases h1 : 1 ≤ p ∧ p ≤ 4
  · rw [decide_eq_true h1] at H1
    by_cases h2 : 1 ≤ e ∧ e ≤ 1000000
    · rw [decide_eq_true h2] at H2
      by_cases h3 : 1 ≤ s ∧ s ≤ 3
      · rw [decide_eq_true h3] at H3
        by_cases h4 : 0 ≤ u ∧ u ≤ 1000000
        · rw [decide_eq_true h4] at H4
          have HG : Hid (txnRightB p e s u rs ls = (ringsB rs && ringsB ls && ls.all (hasB rs) && (decide (s ≠ 1) || decide (ls.length = 0)))) := show _ = _ by simp [txnRightB, h1, h2, h3, h4]
          have H5 : Hid _ := fun w (h : Nums w ra rl rs) => spec_rings ra rl rc rs w h hrl
          have H6 : Hid _ := fun w (h : Nums w la ll ls) => spec_rings la ll lc ls w h hll
          obtain ⟨R, hR⟩ : ∃ R, ringsB rs = R := ⟨_, rfl⟩
          obtain ⟨L, hL⟩ : ∃ L, ringsB ls = L := ⟨_, rfl⟩
          rw [hR] at H5 HG
          rw [hL] at H6 HG
          clear hR hL h1 h2 h3 h4
          go_enter Try.func15, Try.ntmps15
          go_wp2_with fail
          refine (H1.out _).mono ?_
          rintro x w1 ⟨rfl, hw1⟩
          rw [hw1]
          clear hw1 w1
          go_wp2_with fail
          refine (H2.out _).mono ?_
          rintro x w1 ⟨rfl, hw1⟩
          rw [hw1]
          clear hw1 w1
          go_wp2_with fail
          refine (H3.out _).mono ?_
          rintro x w1 ⟨rfl, hw1⟩
          rw [hw1]
          clear hw1 w1
          go_wp2_with fail
          refine (H4.out _).mono ?_
          rintro x w1 ⟨rfl, hw1⟩
          rw [hw1]
          clear hw1 w1
          go_wp2_with fail
          refine (H5.out _ (nums_below HI.out.rs HB0.out)).mono ?_
          rintro x w1 ⟨rfl, hb1⟩
          have HB1 : Hid (Below w.heap.size w w1) := tbelow_tr HB0.out hb1
          have hc1 := fun o => hb1.cell (p := ⟨w.heap.size, o, none⟩) (by simp)
          have hz1 : w.heap.size < w1.heap.size := by have h := hb1.size; simp at h; omega
          clear hb1
          cases R
          · have hE : Hid (txnRightB p e s u rs ls = false) := HG.out.trans (by simp)
            clear HG
            go_wp2
            go_ret
            exact ⟨ret_bool hE.out.symm, HB1.out⟩
          · go_wp2_with fail
            refine (H6.out _ (nums_below HI.out.ls HB1.out)).mono ?_
            rintro x w2 ⟨rfl, hb2⟩
            have HB2 : Hid (Below w.heap.size w w2) := tbelow_tr HB1.out hb2
            have hc2 : ∀ o, w2.cell? ⟨w.heap.size, o, none⟩ = _ := fun o => (hb2.cell (p := ⟨w.heap.size, o, none⟩) hz1).trans (hc1 o)
            have hz2 := Nat.lt_of_lt_of_le hz1 hb2.size
            clear hb2 hc1
            cases L
            · have hE : Hid (txnRightB p e s u rs ls = false) := HG.out.trans (by simp)
              clear HG
              go_wp2
              go_ret
              exact ⟨ret_bool hE.out.symm, HB2.out⟩
            · have HG2 : Hid (txnRightB p e s u rs ls = (ls.all (hasB rs) && (decide (s ≠ 1) || decide (ls.length = 0)))) := HG.out.trans (by simp)
              clear HG H5 H6
              have HI2 : Hid (TIn w2 ra rl la ll rs ls) := HI.out.below HB2.out
              have HK : Hid (w2.cell? ⟨w.heap.size, 0, none⟩ = some (.int .i64 p) ∧ w2.cell? ⟨w.heap.size, 2, none⟩ = some (.int .i64 s) ∧ w2.cell? ⟨w.heap.size, 4, none⟩ = some (.slice ra rl rc) ∧ w2.cell? ⟨w.heap.size, 5, none⟩ = some (.slice la ll lc)) := by
                refine ⟨?_, ?_, ?_, ?_⟩ <;> (rw [hc2]; simp)
              clear hc2
              go_wp2
              go_loopw [3] (fun i wr => ∃ k : Nat, k ≤ ll ∧ i = .int .i64 k ∧ Hid (inTo2 rs ls k) ∧ Hid (Below w2.heap.size w2 wr)) (fun i _ => ll - (intOf i).toNat)
              case atStart => exact ⟨0, by omega, rfl, fun j hj => by omega, Below.refl _ _⟩
              case round =>
                obtain ⟨k, hkn, rfl, hr, hw⟩ := hrel
                have d2 := (hw.out.cell (p := ⟨w.heap.size, 2, none⟩) hz2).trans HK.out.2.1
                have d4 := (hw.out.cell (p := ⟨w.heap.size, 4, none⟩) hz2).trans HK.out.2.2.1
                have d5 := (hw.out.cell (p := ⟨w.heap.size, 5, none⟩) hz2).trans HK.out.2.2.2
                by_cases hlt : k < ll
                · obtain ⟨b, off, rfl, hj, g1⟩ := nums_get HI2.out.ls hw.out (k := k) hlt
                  have hN : hasB rs ls[k] = false → Hid (txnRightB p e s u rs ls = false) := fun h => show _ = _ by rw [HG2.out, in2_no hj h]; simp
                  have hY : hasB rs ls[k] = true → Hid (inTo2 rs ls (k + 1)) := fun h i hi h1 => by
                    by_cases hik : i = k
                    · subst hik; exact h
                    · exact hr.out i (by omega) h1
                  have HH : Hid _ := fun w (h : Nums w ra rl rs) => spec_has ra rl rc rs ls[k] w h hrl
                  obtain ⟨T, hT⟩ : ∃ T, hasB rs ls[k] = T := ⟨_, rfl⟩
                  rw [hT] at hN hY HH
                  clear hT
                  obtain ⟨V, e1⟩ : ∃ V, ls[k] = V := ⟨_, rfl⟩
                  rw [e1] at g1 HH
                  have HRs : Hid (Nums wr ra rl rs) := nums_below HI2.out.rs hw.out
                  clear e1 hr hj
                  cases T
                  · have hE := hN rfl
                    clear hN hY
                    go_wp2
                    go_quiet (first | (go_at_call 43; exact Calls.quiet_of_same (HH.out _ HRs.out)))
                    go_wp2
                    go_ret
                    exact ⟨ret_bool hE.out.symm, tbelow_tr HB2.out (tbelow_dn hw.out _)⟩
                  · have hE := hY rfl
                    clear hN hY
                    go_wp2
                    go_quiet (first | (go_at_call 43; exact Calls.quiet_of_same (HH.out _ HRs.out)))
                    go_wp2
                    exact ⟨⟨k + 1, by omega, by go_num, hE.out, tbelow_dn hw.out _⟩, by simp [intOf]; omega⟩
                · have HG3 : Hid (txnRightB p e s u rs ls = (decide (s ≠ 1) || decide (ll = 0))) := show _ = _ by rw [HG2.out, in2_yes (by rw [HL.out]; omega) hr.out, HL.out]; simp
                  clear hr HG2
                  by_cases hs : s = 1
                  · subst hs
                    go_wp2
                    go_ret
                    refine ⟨ret_bool ?_, tbelow_tr HB2.out hw.out⟩
                    rw [HG3.out, Bool.eq_iff_iff]
                    simp
                  · have hs' : (s != 1) = true := by simpa using hs
                    go_wp2
                    go_ret
                    refine ⟨ret_bool ?_, tbelow_tr HB2.out hw.out⟩
                    rw [HG3.out]
                    simp [hs]
        · rw [decide_eq_false h4] at H4
          have hE : Hid (txnRightB p e s u rs ls = false) := show _ = _ by simp [txnRightB, h4]
          clear h1 h2 h3 h4
          go_enter Try.func15, Try.ntmps15
          go_wp2_with fail
          refine (H1.out _).mono ?_
          rintro x w1 ⟨rfl, hw1⟩
          rw [hw1]
          clear hw1 w1
          go_wp2_with fail
          refine (H2.out _).mono ?_
          rintro x w1 ⟨rfl, hw1⟩
          rw [hw1]
          clear hw1 w1
          go_wp2_with fail
          refine (H3.out _).mono ?_
          rintro x w1 ⟨rfl, hw1⟩
          rw [hw1]
          clear hw1 w1
          go_wp2_with fail
          refine (H4.out _).mono ?_
          rintro x w1 ⟨rfl, hw1⟩
          rw [hw1]
          clear hw1 w1
          go_wp2
          go_ret
          exact ⟨ret_bool hE.out.symm, HB0.out⟩
      · rw [decide_eq_false h3] at H3
        have hE : Hid (txnRightB p e s u rs ls = false) := show _ = _ by simp [txnRightB, h3]
        clear h1 h2 h3
        go_enter Try.func15, Try.ntmps15
        go_wp2_with fail
        refine (H1.out _).mono ?_
        rintro x w1 ⟨rfl, hw1⟩
        rw [hw1]
        clear hw1 w1
        go_wp2_with fail
        refine (H2.out _).mono ?_
        rintro x w1 ⟨rfl, hw1⟩
        rw [hw1]
        clear hw1 w1
        go_wp2_with fail
        refine (H3.out _).mono ?_
        rintro x w1 ⟨rfl, hw1⟩
        rw [hw1]
        clear hw1 w1
        go_wp2
        go_ret
        exact ⟨ret_bool hE.out.symm, HB0.out⟩
    · rw [decide_eq_false h2] at H2
      have hE : Hid (txnRightB p e s u rs ls = false) := show _ = _ by simp [txnRightB, h2]
      clear h1 h2
      go_enter Try.func15, Try.ntmps15
      go_wp2_with fail
      refine (H1.out _).mono ?_
      rintro x w1 ⟨rfl, hw1⟩
      rw [hw1]
      clear hw1 w1
      go_wp2_with fail
      refine (H2.out _).mono ?_
      rintro x w1 ⟨rfl, hw1⟩
      rw [hw1]
      clear hw1 w1
      go_wp2
      go_ret
      exact ⟨ret_bool hE.out.symm, HB0.out⟩
  · rw [decide_eq_false h1] at H1
    have hE : Hid (txnRightB p e s u rs ls = false) := show _ = _ by simp [txnRightB, h1]
    clear h1
    go_enter Try.func15, Try.ntmps15
    go_wp2_with fail
    refine (H1.out _).mono ?_
    rintro x w1 ⟨rfl, hw1⟩
    rw [hw1]
    clear hw1 w1
    go_wp2
    go_ret
    exact ⟨ret_bool hE.out.symm, HB0.out⟩
end Go.Proofs.Ytgjomkgbpfklkaa
