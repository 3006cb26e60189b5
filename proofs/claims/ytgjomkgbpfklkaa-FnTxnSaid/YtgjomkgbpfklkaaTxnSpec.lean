/- The specification's transactions: what is right. -/
import Derived.Test.YtgjomkgbpfklkaaTxnRows
namespace Go.Proofs.Ytgjomkgbpfklkaa
open Go.RowKit

theorem tspec_is (n a b : Int) (w : World) :
    Calls Try.prog 33 #[.int .i64 n, .int .i64 a, .int .i64 b] w fun e w' => e = .returned (.bool (decide (a ≤ n ∧ n ≤ b))) ∧ w' = w := by
  by_cases h1 : a ≤ n
  · by_cases h2 : n ≤ b
    · go_enter Try.func33, Try.ntmps33
      go_wp2
      go_ret
      exact ⟨ret_bool (decide_eq_true ⟨h1, h2⟩).symm, rfl⟩
    · go_enter Try.func33, Try.ntmps33
      go_wp2
      go_ret
      exact ⟨ret_bool (decide_eq_false (by omega)).symm, rfl⟩
  · go_enter Try.func33, Try.ntmps33
    go_wp2
    go_ret
    exact ⟨ret_bool (by simp; omega), rfl⟩
theorem tspec_time (n : Int) (w : World) : Calls Try.prog 41 #[.int .i64 n] w fun e w' => e = .returned (.bool (decide (0 ≤ n ∧ n ≤ 1000000))) ∧ w' = w := by
  go_enter Try.func41, Try.ntmps41
  go_wp2_with fail
  refine (tspec_is n 0 1000000 _).mono ?_
  rintro e w1 ⟨rfl, rfl⟩
  go_wp2
  go_ret
  exact ⟨ret_bool (by simp), rfl⟩
def rnumTo (l : List Int) (k : Nat) : Prop := ∀ j, j < k → ∀ (h : j < l.length), rnum l[j] = true
theorem rings_no {l : List Int} {k : Nat} (hk : k < l.length) (h : rnum l[k] = false) : ringsB l = false := by
  have e : l.all rnum = false := by
    rw [List.all_eq_false]
    exact ⟨l[k], List.getElem_mem hk, by simp [h]⟩
  simp [ringsB, e]
theorem rings_yes {l : List Int} {k : Nat} (hk : l.length ≤ k) (h : rnumTo l k) (hu : upTo l k) : ringsB l = true := by
  have e : l.all rnum = true := by
    rw [List.all_eq_true]
    intro x hx
    obtain ⟨j, hj, rfl⟩ := List.getElem_of_mem hx
    exact h j (by omega) hj
  simp [ringsB, e, up_yes hu hk]
theorem rnumTo_succ {l : List Int} {k : Nat} (hr : rnumTo l k) (hk : k < l.length) (h : rnum l[k] = true) : rnumTo l (k + 1) := fun i hi h1 => by
  by_cases hik : i = k
  · subst hik; exact h
  · exact hr i (by omega) h1
theorem upTo_succ {l : List Int} {j : Nat} (hr : upTo l (j + 1)) (hk : j + 1 < l.length) (h : l[j] < l[j + 1]) : upTo l (j + 1 + 1) := fun i hi h1 => by
  by_cases hij : i = j
  · subst hij; exact h
  · exact hr i (by omega) h1
set_option maxRecDepth 100000 in
set_option maxHeartbeats 2000000 in
theorem spec_rings (a : Option Addr) (n c : Nat) (l : List Int) (w : World) (h : Nums w a n l) (hn : n ≤ 1048576) :
    Calls Try.prog 42 #[.slice a n c] w fun e w' => e = .returned (.bool (ringsB l)) ∧ Below w.heap.size w w' := by
  have HC : Hid (Nums w a n l) := h
  have HL : Hid (l.length = n) := h.1
  clear h
  go_enter Try.func42, Try.ntmps42
  go_wp2
  go_loopw [3] (fun i wr => ∃ k : Nat, k ≤ n ∧ i = .int .i64 k ∧ Hid (rnumTo l k) ∧ Hid (upTo l k) ∧ Hid (Below w.heap.size w wr)) (fun i _ => n - (intOf i).toNat)
  case atStart => exact ⟨0, by omega, rfl, fun j hj => by omega, fun j hj => by omega, Below.refl _ _⟩
  case round =>
    obtain ⟨k, hkn, rfl, hr, hu, hw⟩ := hrel
    by_cases hlt : k < n
    · obtain ⟨b, off, rfl, hj, g1⟩ := nums_get HC.out hw.out (k := k) hlt
      have hN : rnum l[k] = false → Hid (ringsB l = false) := fun h => rings_no hj h
      have hY : rnum l[k] = true → Hid (rnumTo l (k + 1)) := fun h => rnumTo_succ hr.out hj h
      have hlI : (k : Int) < (n : Int) := by omega
      cases k with
      | zero =>
        have hU : Hid (upTo l (0 + 1)) := fun i hi => by omega
        obtain ⟨V, e1⟩ : ∃ V, l[0] = V := ⟨_, rfl⟩
        rw [e1] at hN hY g1
        have HI : Hid _ := fun w => tspec_is V 0 3 w
        simp only [Nat.add_zero] at g1
        clear e1 hr hu hj
        by_cases hV : 0 ≤ V ∧ V ≤ 3
        · have hE := hY (decide_eq_true hV)
          rw [decide_eq_true hV] at HI
          clear hY hN hV
          go_wp2
          go_quiet (first | (go_at_call 33; exact Calls.quiet_of_same (HI.out _)))
          go_wp2
          exact ⟨⟨0 + 1, by omega, by go_num, hE.out, hU.out, tbelow_dn hw.out _⟩, by simp [intOf]; omega⟩
        · have hE := hN (decide_eq_false hV)
          rw [decide_eq_false hV] at HI
          clear hY hN hV
          go_wp2
          go_quiet (first | (go_at_call 33; exact Calls.quiet_of_same (HI.out _)))
          go_wp2
          go_ret
          exact ⟨ret_bool hE.out.symm, tbelow_dn hw.out _⟩
      | succ j =>
        obtain ⟨b', off', e, hj', g2⟩ := nums_get HC.out hw.out (k := j) (by omega)
        obtain ⟨rfl, rfl⟩ : b' = b ∧ off' = off := by simp at e; omega
        have hUY : l[j] < l[j + 1] → Hid (upTo l (j + 1 + 1)) := fun h => upTo_succ hu.out hj h
        have hUN : ¬ l[j] < l[j + 1] → Hid (ringsB l = false) := fun h => by show ringsB l = false; simp [ringsB, up_no hj h]
        obtain ⟨V, e1⟩ : ∃ V, l[j + 1] = V := ⟨_, rfl⟩
        obtain ⟨U, e2⟩ : ∃ U, l[j] = U := ⟨_, rfl⟩
        rw [e1] at hN hY g1 hUY hUN
        rw [e2] at g2 hUY hUN
        have HI : Hid _ := fun w => tspec_is V 0 3 w
        have hW1 : IntKind.i64.wrap (j : Int) = (j : Int) := twrap_in _ (by omega) (by omega)
        have hjn : (j : Int) < (n : Int) := by omega
        clear e1 e2 hr hu hj hj' e
        by_cases hV : 0 ≤ V ∧ V ≤ 3
        · have hE := hY (decide_eq_true hV)
          rw [decide_eq_true hV] at HI
          clear hY hN hV
          by_cases hG : U < V
          · have hF := hUY hG
            have hG' : decide (V ≤ U) = false := decide_eq_false (by omega)
            clear hUY hUN
            go_wp2
            go_quiet (first | (go_at_call 33; exact Calls.quiet_of_same (HI.out _)))
            go_wp2
            exact ⟨⟨j + 1 + 1, by omega, by go_num, hE.out, hF.out, tbelow_dn hw.out _⟩, by simp [intOf]; omega⟩
          · have hF := hUN hG
            have hG' : decide (V ≤ U) = true := decide_eq_true (by omega)
            clear hUY hUN
            go_wp2
            go_quiet (first | (go_at_call 33; exact Calls.quiet_of_same (HI.out _)))
            go_wp2
            go_ret
            exact ⟨ret_bool hF.out.symm, tbelow_dn hw.out _⟩
        · have hE := hN (decide_eq_false hV)
          rw [decide_eq_false hV] at HI
          clear hY hN hV hUY hUN
          go_wp2
          go_quiet (first | (go_at_call 33; exact Calls.quiet_of_same (HI.out _)))
          go_wp2
          go_ret
          exact ⟨ret_bool hE.out.symm, tbelow_dn hw.out _⟩
    · have hE : Hid (ringsB l = true) := rings_yes (by rw [HL.out]; omega) hr.out hu.out
      go_wp2
      go_ret
      exact ⟨ret_bool hE.out.symm, hw.out⟩
def hasTo (l : List Int) (n : Int) (k : Nat) : Prop := ∀ j, j < k → ∀ (h : j < l.length), l[j] ≠ n
theorem has_yes {l : List Int} {n : Int} {k : Nat} (hk : k < l.length) (h : l[k] = n) : hasB l n = true := by
  unfold hasB
  rw [List.any_eq_true]
  exact ⟨l[k], List.getElem_mem hk, by simp [h]⟩
theorem has_no {l : List Int} {n : Int} {k : Nat} (hk : l.length ≤ k) (h : hasTo l n k) : hasB l n = false := by
  unfold hasB
  rw [List.any_eq_false]
  intro x hx
  obtain ⟨j, hj, rfl⟩ := List.getElem_of_mem hx
  have := h j (by omega) hj
  simpa using this
set_option maxHeartbeats 1000000 in
theorem spec_has (a : Option Addr) (n c : Nat) (l : List Int) (g : Int) (w : World) (h : Nums w a n l) (hn : n ≤ 1048576) :
    Calls Try.prog 43 #[.slice a n c, .int .i64 g] w fun e w' => e = .returned (.bool (hasB l g)) ∧ w' = w := by
  have HC : Hid (Nums w a n l) := h
  have HL : Hid (l.length = n) := h.1
  clear h
  go_enter Try.func43, Try.ntmps43
  go_wp2
  go_loop [5] (fun i => ∃ k : Nat, k ≤ n ∧ i = .int .i64 k ∧ Hid (hasTo l g k)) (fun i => n - (intOf i).toNat)
  case atStart => exact ⟨0, by omega, rfl, fun j hj => by omega⟩
  case round =>
    obtain ⟨k, hkn, rfl, hr⟩ := hrel
    by_cases hlt : k < n
    · obtain ⟨b, off, rfl, hj, g1⟩ := nums_get HC.out (Below.refl _ _) (k := k) hlt
      have hY : l[k] = g → Hid (hasB l g = true) := fun h => has_yes hj h
      have hN : l[k] ≠ g → Hid (hasTo l g (k + 1)) := fun h i hi h1 => by
        by_cases hik : i = k
        · subst hik; exact h
        · exact hr.out i (by omega) h1
      obtain ⟨V, e1⟩ : ∃ V, l[k] = V := ⟨_, rfl⟩
      rw [e1] at hY hN g1
      clear e1 hr hj
      by_cases hV : V = g
      · have hE := hY hV
        have hV' : (V == g) = true := by simpa using hV
        clear hY hN hV
        go_wp2
        go_ret
        exact ⟨ret_bool hE.out.symm, rfl⟩
      · have hE := hN hV
        have hV' : (V == g) = false := by simpa using hV
        clear hY hN hV
        go_wp2
        exact ⟨⟨k + 1, by omega, by go_num, hE.out⟩, by simp [intOf]; omega⟩
    · have hE : Hid (hasB l g = false) := has_no (by rw [HL.out]; omega) hr.out
      go_wp2
      go_ret
      exact ⟨ret_bool hE.out.symm, rfl⟩
end Go.Proofs.Ytgjomkgbpfklkaa
