/- The laws of RecRight, in its own steps. -/
import Derived.Test.YtbafkhfkijmjcaaDoorRecImpl
namespace Go.Proofs.YtbafkhfkijmjcaaDoor
open Go.RowKit

theorem law_szRec_no (k t : Int) (d : ByteArray) (w : World) (hm : d.size ≤ maxLen) (h : 1048576 < d.size) :
    Calls Tryd.prog 15 #[recV k t d, .int .i64 1048576] w fun e w' => e = .returned (.int .i64 (-1)) ∧ Below w.heap.size w w' := by
  unfold maxLen at hm
  go_enter Tryd.func15, Tryd.ntmps15
  go_wp2
  go_ret
  exact ⟨rfl, (Below.refl _ _).alloc (Nat.le_refl _) _⟩
theorem law_szRec_yes (k t : Int) (d : ByteArray) (w : World) (h : d.size ≤ 1048576) :
    Calls Tryd.prog 15 #[recV k t d, .int .i64 1048576] w fun e w' => e = .returned (.int .i64 (1048576 - (d.size : Int))) ∧ Below w.heap.size w w' := by
  go_enter Tryd.func15, Tryd.ntmps15
  go_wp2
  go_ret
  exact ⟨rfl, (Below.refl _ _).alloc (Nat.le_refl _) _⟩
theorem law_toRec (k t : Int) (d : ByteArray) (w : World) :
    Calls Tryd.prog 16 #[recV k t d] w fun e w' => e = .returned (recV k t d) ∧ Below w.heap.size w w' := by
  go_enter Tryd.func16, Tryd.ntmps16
  go_wp2
  exact bodyPost_ret (v := recV k t d) (by simp [results, Tryd.results16, go_sem]) rfl ⟨rfl, (((Below.refl _ _).alloc (Nat.le_refl _) _).alloc (by simp) _).alloc (by simp; omega) _⟩

theorem law_recRight (k t : Int) (d : ByteArray) (w : World) (hm : d.size ≤ maxLen) (hT : utabs w) :
    Calls Tryd.prog 4 #[recV k t d] w fun e w' => e = .returned (.bool true) ∧ Below w.heap.size w w' := by
  by_cases hs : d.size ≤ 1048576
  · have HT : Hid (utabs w) := hT
    have HI : Hid _ := fun w h => impl_recRight k t d w hm h
    have HP : Hid _ := fun w => spec_recRight k t d w hm
    generalize recRightB k t d = R at HI HP
    clear hT hm
    go_enter Tryd.func4, Tryd.ntmps4
    go_wp2_with fail
    refine (law_szRec_yes k t d _ hs).mono ?_
    rintro e w1 ⟨rfl, hb1⟩
    have hc1 := fun o => hb1.cell (p := ⟨w.heap.size, o, none⟩) (by simp)
    have hz1 : w.heap.size < w1.heap.size := by have h := hb1.size; simp at h; omega
    have hB1 : Hid (Below w.heap.size w w1) := ((Below.refl _ _).alloc (Nat.le_refl _) _).trans (hb1.mono (by simp))
    clear hb1
    go_wp2_with fail
    refine (law_toRec k t d _).mono ?_
    rintro e w2 ⟨rfl, hb2⟩
    have hc2 := fun o => hb2.cell (p := ⟨w.heap.size, o, none⟩) hz1
    have hz2 : w.heap.size < w2.heap.size := by have h := hb2.size; omega
    have hB2 : Hid (Below w.heap.size w w2) := hB1.out.trans (hb2.mono (by omega))
    clear hb2
    go_wp2_with fail
    refine (HP.out _).mono ?_
    rintro e w3 ⟨rfl, hb3⟩
    have hc3 := fun o => hb3.cell (p := ⟨w.heap.size, o, none⟩) hz2
    have hz3 : w.heap.size < w3.heap.size := by have h := hb3.size; omega
    have hB3 : Hid (Below w.heap.size w w3) := hB2.out.trans (hb3.mono (by omega))
    clear hb3
    go_wp2_with fail
    refine (law_toRec k t d _).mono ?_
    rintro e w4 ⟨rfl, hb4⟩
    have hz4 : w.heap.size < w4.heap.size := by have h := hb4.size; omega
    have hB4 : Hid (Below w.heap.size w w4) := hB3.out.trans (hb4.mono (by omega))
    have HT4 : Hid (utabs w4) := utabs_below HT.out hB4.out
    clear hb4
    go_wp2_with fail
    refine (HI.out _ HT4.out).mono ?_
    rintro e w5 ⟨rfl, hb5⟩
    have hB5 : Hid (Below w.heap.size w w5) := hB4.out.trans (hb5.mono (by omega))
    clear hb5
    cases R
    all_goals
      go_wp2
      go_ret
      exact ⟨rfl, hB5.out⟩
  · go_enter Tryd.func4, Tryd.ntmps4
    go_wp2_with fail
    refine (law_szRec_no k t d _ hm (by omega)).mono ?_
    rintro e w1 ⟨rfl, hb1⟩
    have hB1 : Hid (Below w.heap.size w w1) := ((Below.refl _ _).alloc (Nat.le_refl _) _).trans (hb1.mono (by simp))
    go_wp2
    go_ret
    exact ⟨rfl, hB1.out⟩
end Go.Proofs.YtbafkhfkijmjcaaDoor
