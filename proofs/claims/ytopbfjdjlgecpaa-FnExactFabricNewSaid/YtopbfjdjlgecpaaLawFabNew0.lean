/- The laws' own helpers on rows of new rings. -/
import Derived.Test.YtopbfjdjlgecpaaFabNew3
import Derived.Test.YtopbfjdjlgecpaaLawTxn1
namespace Go.Proofs.Ytopbfjdjlgecpaa
open Go.RowKit

/-- The cells of rings without records and cursors. -/
def rCells : List (Int × Int) → List Value
  | [] => []
  | c :: r => .int .i64 c.1 :: .int .i64 c.2 :: .slice none 0 0 :: .slice none 0 0 :: rCells r
theorem rCells_length (l : List (Int × Int)) : (rCells l).length = l.length * 4 := by
  induction l with
  | nil => rfl
  | cons c r ih => simp [rCells, ih]; omega
theorem rCells_at (l : List (Int × Int)) (i : Nat) (h : i < l.length) : (rCells l)[i * 4]? = some (.int .i64 l[i].1) ∧ (rCells l)[i * 4 + 1]? = some (.int .i64 l[i].2) ∧ (rCells l)[i * 4 + 2]? = some (.slice none 0 0) ∧ (rCells l)[i * 4 + 3]? = some (.slice none 0 0) := by
  induction l generalizing i with
  | nil => simp at h
  | cons c r ih =>
    cases i with
    | zero => simp [rCells]
    | succ j =>
      have := ih j (by simpa using h)
      have e : (j + 1) * 4 = j * 4 + 1 + 1 + 1 + 1 := by omega
      simp only [rCells, e, List.getElem?_cons_succ, List.getElem_cons_succ]
      exact this
theorem rCells_set0 (l : List (Int × Int)) (i : Nat) (h : i < l.length) (v : Int) : (rCells l).set (i * 4) (.int .i64 v) = rCells (l.set i (v, l[i].2)) := by
  induction l generalizing i with
  | nil => simp at h
  | cons c r ih =>
    cases i with
    | zero => simp [rCells]
    | succ j =>
      have := ih j (by simpa using h)
      have e : (j + 1) * 4 = j * 4 + 1 + 1 + 1 + 1 := by omega
      simp only [rCells, e, List.set_cons_succ, List.getElem_cons_succ]
      rw [this]
theorem rCells_set1 (l : List (Int × Int)) (i : Nat) (h : i < l.length) (v : Int) : (rCells l).set (i * 4 + 1) (.int .i64 v) = rCells (l.set i (l[i].1, v)) := by
  induction l generalizing i with
  | nil => simp at h
  | cons c r ih =>
    cases i with
    | zero => simp [rCells]
    | succ j =>
      have := ih j (by simpa using h)
      have e : (j + 1) * 4 + 1 = j * 4 + 1 + 1 + 1 + 1 + 1 := by omega
      simp only [rCells, e, List.set_cons_succ, List.getElem_cons_succ]
      rw [this]
theorem newCells_r (most : Int) (k : Nat) : newCells most k = rCells (List.replicate k (most, 0)) := by
  unfold newCells
  induction k with
  | zero => rfl
  | succ k ih => rw [List.replicate_succ, List.replicate_succ, List.flatten_cons, ih]; rfl
/-- The first i of them marked, from K on. -/
def mR (K i : Nat) (l : List (Int × Int)) : List (Int × Int) := l.mapIdx fun j x => if j < i then (((K + j * 2 : Nat) : Int), ((K + j * 2 + 1 : Nat) : Int)) else x
theorem mR_length (K i : Nat) (l : List (Int × Int)) : (mR K i l).length = l.length := by simp [mR]
theorem mR_zero (K : Nat) (l : List (Int × Int)) : mR K 0 l = l := by
  apply List.ext_getElem?
  intro j
  simp [mR]
theorem mR_at (K i : Nat) (l : List (Int × Int)) (j : Nat) (h : j < l.length) (hj : j < i) : (mR K i l)[j]'(by rw [mR_length]; exact h) = (((K + j * 2 : Nat) : Int), ((K + j * 2 + 1 : Nat) : Int)) := by simp [mR, hj]
theorem mR_step (K i : Nat) (l : List (Int × Int)) (h : i < l.length) : (mR K i l).set i (((K + i * 2 : Nat) : Int), ((K + i * 2 + 1 : Nat) : Int)) = mR K (i + 1) l := by
  apply List.ext_getElem?
  intro j
  by_cases hj : i = j
  · subst hj
    rw [List.getElem?_set_self (by rw [mR_length]; exact h)]
    simp [mR, h]
  · rw [List.getElem?_set_ne hj]
    simp only [mR, List.getElem?_mapIdx]
    cases l[j]? with
    | none => rfl
    | some x =>
      by_cases h1 : j < i
      · have : j < i + 1 := by omega
        simp [h1, this]
      · have : ¬ j < i + 1 := by omega
        simp [h1, this]
theorem own_rform {w : World} {base e size n c : Nat} {a : Option Addr} {xs : List Value} (h : w.ownsRow base e size (.slice a n c) n xs) (hn : 0 < n) : ∃ g, a = some ⟨g, 0, none⟩ := by
  rcases h.2 with ⟨h1, h2⟩ | ⟨g, cap, cur, e, _⟩
  · omega
  · simp only [Value.slice.injEq] at e
    exact ⟨g, e.1⟩
theorem nil_markStrs (K : Nat) (w : World) : Calls Try.prog 32 #[.slice none 0 0, .int .i64 K] w fun e w' => e = .returned (.int .i64 K) ∧ w' = w := by
  go_enter Try.func32, Try.ntmps32
  go_wp2
  go_loop [1, 5] (fun q i => i = .int .i64 0 ∧ q = .int .i64 K) (fun _ _ => 0)
  case atStart => exact ⟨rfl, rfl⟩
  case round =>
    obtain ⟨rfl, rfl⟩ := hrel
    go_wp2
    go_ret
    exact ⟨rfl, rfl⟩
theorem nil_markCurs (K : Nat) (w : World) : Calls Try.prog 33 #[.slice none 0 0, .int .i64 K] w fun e w' => e = .returned (.int .i64 K) ∧ w' = w := by
  go_enter Try.func33, Try.ntmps33
  go_wp2
  go_loop [1, 5] (fun q i => i = .int .i64 0 ∧ q = .int .i64 K) (fun _ _ => 0)
  case atStart => exact ⟨rfl, rfl⟩
  case round =>
    obtain ⟨rfl, rfl⟩ := hrel
    go_wp2
    go_ret
    exact ⟨rfl, rfl⟩
theorem nil_heldStrs (K : Nat) (w : World) : Calls Try.prog 34 #[.slice none 0 0, .int .i64 K] w fun e w' => e = .returned (.int .i64 K) ∧ w' = w := by
  go_enter Try.func34, Try.ntmps34
  go_wp2
  go_loop [1, 5] (fun q i => i = .int .i64 0 ∧ q = .int .i64 K) (fun _ _ => 0)
  case atStart => exact ⟨rfl, rfl⟩
  case round =>
    obtain ⟨rfl, rfl⟩ := hrel
    go_wp2
    go_ret
    exact ⟨rfl, rfl⟩
theorem nil_heldCurs (K : Nat) (w : World) : Calls Try.prog 35 #[.slice none 0 0, .int .i64 K] w fun e w' => e = .returned (.int .i64 K) ∧ w' = w := by
  go_enter Try.func35, Try.ntmps35
  go_wp2
  go_loop [1, 5] (fun q i => i = .int .i64 0 ∧ q = .int .i64 K) (fun _ _ => 0)
  case atStart => exact ⟨rfl, rfl⟩
  case round =>
    obtain ⟨rfl, rfl⟩ := hrel
    go_wp2
    go_ret
    exact ⟨rfl, rfl⟩
theorem nil_markTxns (K : Nat) (w : World) : Calls Try.prog 26 #[.slice none 0 0, .int .i64 K] w fun e w' => e = .returned (.int .i64 K) ∧ w' = w := by
  go_enter Try.func26, Try.ntmps26
  go_wp2
  go_loop [1, 5] (fun q i => i = .int .i64 0 ∧ q = .int .i64 K) (fun _ _ => 0)
  case atStart => exact ⟨rfl, rfl⟩
  case round =>
    obtain ⟨rfl, rfl⟩ := hrel
    go_wp2
    go_ret
    exact ⟨rfl, rfl⟩
theorem nil_heldTxns (K : Nat) (w : World) : Calls Try.prog 29 #[.slice none 0 0, .int .i64 K] w fun e w' => e = .returned (.int .i64 K) ∧ w' = w := by
  go_enter Try.func29, Try.ntmps29
  go_wp2
  go_loop [1, 5] (fun q i => i = .int .i64 0 ∧ q = .int .i64 K) (fun _ _ => 0)
  case atStart => exact ⟨rfl, rfl⟩
  case round =>
    obtain ⟨rfl, rfl⟩ := hrel
    go_wp2
    go_ret
    exact ⟨rfl, rfl⟩
theorem nil_eqTxns (w : World) : Calls Try.prog 23 #[.slice none 0 0, .slice none 0 0] w fun e w' => e = .returned (.bool true) ∧ w' = w := by
  go_enter Try.func23, Try.ntmps23
  go_wp2
  go_loop [5] (fun i => i = .int .i64 0) (fun _ => 0)
  case atStart => rfl
  case round =>
    obtain rfl := hrel
    go_wp2
    go_ret
    exact ⟨rfl, rfl⟩
set_option maxHeartbeats 2000000 in
theorem law_markRings (a : Option Addr) (n c base : Nat) (l : List (Int × Int)) (K : Nat) (w : World) (hown : w.ownsRow base 36 4 (.slice a n c) n (rCells l)) (hK : 0 < K) (hm : K + n * 2 ≤ 100000000) :
    Calls Try.prog 24 #[.slice a n c, .int .i64 K] w fun e w' => e = .returned (.int .i64 ((K + n * 2 : Nat) : Int)) ∧ w'.ownsRow base 36 4 (.slice a n c) n (rCells (mR K n l)) ∧ w.grownBy w' (Value.slice a n c).ownBlock := by
  have hlen : l.length = n := by have := hown.1; rw [rCells_length] at this; omega
  have HO : Hid (w.ownsRow base 36 4 (.slice a n c) n (rCells l)) := hown
  clear hown
  go_enter Try.func24, Try.ntmps24
  go_wp2
  go_loopw [1, 5] (fun q i wr => ∃ k : Nat, k ≤ n ∧ i = .int .i64 k ∧ q = .int .i64 ((K + k * 2 : Nat) : Int) ∧ Hid (wr.ownsRow base 36 4 (.slice a n c) n (rCells (mR K k l))) ∧ Hid (w.grownBy wr (Value.slice a n c).ownBlock)) (fun _ i _ => n - (intOf i).toNat)
  case atStart => exact ⟨0, by omega, rfl, by go_num, by rw [mR_zero]; exact HO.out, World.grownBy.refl _ _⟩
  case round =>
    obtain ⟨k, hk, rfl, rfl, ho, hw⟩ := hrel
    by_cases hlt : k < n
    · obtain ⟨g, rfl⟩ := own_rform ho.out (by omega)
      have hkl : k < (mR K k l).length := by rw [mR_length]; omega
      have hat := rCells_at (mR K k l) k hkl
      have h0 := (ho.out.cellAt (k * 4) (by omega)).trans hat.1
      have h1 := (ho.out.cellAt (k * 4 + 1) (by omega)).trans hat.2.1
      have h2 := (ho.out.cellAt (k * 4 + 2) (by omega)).trans hat.2.2.1
      have h3 := (ho.out.cellAt (k * 4 + 3) (by omega)).trans hat.2.2.2
      have f0 := ho.out.frozenAt (k * 4)
      have f1 := ho.out.frozenAt (k * 4 + 1)
      obtain ⟨hs1, hs2⟩ := ho.out.stored (k * 4) (.int .i64 ((K + k * 2 : Nat) : Int))
      rw [rCells_set0 _ k hkl] at hs1
      obtain ⟨hs3, hs4⟩ := hs1.stored (k * 4 + 1) (.int .i64 ((K + k * 2 + 1 : Nat) : Int))
      rw [rCells_set1 _ k (by rw [List.length_set]; exact hkl), List.set_set, List.getElem_set_self, mR_step K k l (by omega)] at hs3
      have H3 : Hid _ := hs3
      have H4 : Hid _ := (hw.out.trans hs2).trans hs4
      clear hs1 hs2 hs3 hs4 hat
      generalize ((mR K k l)[k]).1 = p0 at h0
      generalize ((mR K k l)[k]).2 = p1 at h1
      go_wp2_with (first | (go_at_call 32; refine (nil_markStrs (K + k * 2 + 2) _).mono ?_; rintro e w2 ⟨rfl, hw2⟩; rw [hw2]; clear hw2 w2) | (go_at_call 33; refine (nil_markCurs (K + k * 2 + 2) _).mono ?_; rintro e w2 ⟨rfl, hw2⟩; rw [hw2]; clear hw2 w2))
      refine ⟨⟨k + 1, by omega, by go_num, by go_num, ?_, ?_⟩, by simp [intOf]; omega⟩
      · exact H3.out
      · exact H4.out
    · obtain rfl : k = n := by omega
      go_wp2
      go_ret
      exact ⟨ret_int (by omega), ho.out, hw.out⟩
end Go.Proofs.Ytopbfjdjlgecpaa
