/- The laws' own helpers on new fabrics. -/
import Derived.Test.YtopbfjdjlgecpaaLawFabNew0
namespace Go.Proofs.Ytopbfjdjlgecpaa
open Go.RowKit
set_option maxHeartbeats 2000000 in
theorem law_heldRings (a : Option Addr) (n c base : Nat) (l : List (Int × Int)) (K : Nat) (w : World) (hown : w.ownsRow base 36 4 (.slice a n c) n (rCells (mR K n l))) (hK : 0 < K) (hm : K + n * 2 ≤ 100000000) :
    Calls Try.prog 27 #[.slice a n c, .int .i64 K] w fun e w' => e = .returned (.int .i64 ((K + n * 2 : Nat) : Int)) ∧ w' = w := by
  have hlen : l.length = n := by have := hown.1; rw [rCells_length, mR_length] at this; omega
  have HO : Hid (w.ownsRow base 36 4 (.slice a n c) n (rCells (mR K n l))) := hown
  clear hown
  go_enter Try.func27, Try.ntmps27
  go_wp2
  go_loop [1, 5] (fun q i => ∃ k : Nat, k ≤ n ∧ i = .int .i64 k ∧ q = .int .i64 ((K + k * 2 : Nat) : Int)) (fun _ i => n - (intOf i).toNat)
  case atStart => exact ⟨0, by omega, rfl, by go_num⟩
  case round =>
    obtain ⟨k, hk, rfl, rfl⟩ := hrel
    by_cases hlt : k < n
    · obtain ⟨g, rfl⟩ := own_rform HO.out (by omega)
      have hkl : k < (mR K n l).length := by rw [mR_length]; omega
      have hat := rCells_at (mR K n l) k hkl
      rw [mR_at K n l k (by omega) hlt] at hat
      have h0 := (HO.out.cellAt (k * 4) (by omega)).trans hat.1
      have h1 := (HO.out.cellAt (k * 4 + 1) (by omega)).trans hat.2.1
      have h2 := (HO.out.cellAt (k * 4 + 2) (by omega)).trans hat.2.2.1
      have h3 := (HO.out.cellAt (k * 4 + 3) (by omega)).trans hat.2.2.2
      simp only [Int.natCast_add, Int.natCast_mul, Int.cast_ofNat_Int] at h0 h1
      clear hat hkl
      go_wp2_with (first | (go_at_call 34; refine (nil_heldStrs (K + k * 2 + 2) _).mono ?_; rintro e w2 ⟨rfl, hw2⟩; rw [hw2]; clear hw2 w2) | (go_at_call 35; refine (nil_heldCurs (K + k * 2 + 2) _).mono ?_; rintro e w2 ⟨rfl, hw2⟩; rw [hw2]; clear hw2 w2))
      all_goals first | exact ⟨⟨k + 1, by omega, by go_num, by go_num⟩, by simp [intOf]; omega⟩ | (go_round; all_goals first | exact ⟨k + 1, by omega, by go_num, by go_num⟩ | (simp [intOf]; omega))
    · obtain rfl : k = n := by omega
      go_wp2
      go_ret
      exact ⟨ret_int (by omega), rfl⟩
theorem nil_strs (w : World) : Strs w none 0 [] := ⟨rfl, fun i h => absurd h (by simp)⟩
theorem nil_curs (w : World) : Curs w none 0 [] := ⟨rfl, fun i h => absurd h (by simp)⟩
theorem nil_eqRing (p q : Int) (w : World) : Calls Try.prog 30 #[ringV p q none 0 0 none 0 0, ringV p q none 0 0 none 0 0] w fun e w' => e = .returned (.bool true) ∧ Below w.heap.size w w' :=
  law_eqRing p q none 0 0 none 0 0 none 0 none 0 [] [] w (nil_strs _) (nil_strs _) (nil_curs _) (nil_curs _) (by omega) (by omega)
set_option maxHeartbeats 2000000 in
theorem law_eqRings (a b : Option Addr) (n ca cb base base' : Nat) (l : List (Int × Int)) (w : World) (ha : w.ownsRow base 36 4 (.slice a n ca) n (rCells l)) (hb : w.ownsRow base' 36 4 (.slice b n cb) n (rCells l)) (hn : n ≤ 2097152) :
    Calls Try.prog 21 #[.slice a n ca, .slice b n cb] w fun e w' => e = .returned (.bool true) ∧ Below w.heap.size w w' := by
  have hlen : l.length = n := by have := ha.1; rw [rCells_length] at this; omega
  have HA : Hid _ := ha
  have HB : Hid _ := hb
  clear ha hb
  go_enter Try.func21, Try.ntmps21
  go_wp2
  go_loopw [5] (fun i wr => ∃ k : Nat, k ≤ n ∧ i = .int .i64 k ∧ Hid (Below w.heap.size w wr)) (fun i _ => n - (intOf i).toNat)
  case atStart => exact ⟨0, by omega, rfl, Below.refl _ _⟩
  case round =>
    obtain ⟨k, hk, rfl, hw⟩ := hrel
    by_cases hlt : k < n
    · have hx := fown_below HA.out hw.out
      have hy := fown_below HB.out hw.out
      obtain ⟨g, rfl⟩ := own_rform hx (by omega)
      obtain ⟨g', rfl⟩ := own_rform hy (by omega)
      have hat := rCells_at l k (by omega)
      have h0 := (hx.cellAt (k * 4) (by omega)).trans hat.1
      have h1 := (hx.cellAt (k * 4 + 1) (by omega)).trans hat.2.1
      have h2 := (hx.cellAt (k * 4 + 2) (by omega)).trans hat.2.2.1
      have h3 := (hx.cellAt (k * 4 + 3) (by omega)).trans hat.2.2.2
      have i0 := (hy.cellAt (k * 4) (by omega)).trans hat.1
      have i1 := (hy.cellAt (k * 4 + 1) (by omega)).trans hat.2.1
      have i2 := (hy.cellAt (k * 4 + 2) (by omega)).trans hat.2.2.1
      have i3 := (hy.cellAt (k * 4 + 3) (by omega)).trans hat.2.2.2
      clear hat hx hy
      generalize (l[k]).1 = p0 at h0 i0
      generalize (l[k]).2 = p1 at h1 i1
      go_wp2
      go_region_with (first | (go_at_call 30; refine (nil_eqRing p0 p1 _).mono ?_; rintro e w2 ⟨rfl, hb2⟩; have HW2 : Hid (Below w.heap.size w w2) := below_tr hw.out (below_tr ((Below.refl _ _).drew) hb2); clear hb2))
      all_goals go_wp2
      all_goals exact ⟨⟨k + 1, by omega, by go_num, HW2.out⟩, by simp [intOf]; omega⟩
    · go_wp2
      go_ret
      exact ⟨rfl, hw.out⟩
end Go.Proofs.Ytopbfjdjlgecpaa
