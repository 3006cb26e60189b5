/- The law of RecRead. -/
import Derived.Test.YtbafkhfkijmjcaaDoorRecSpec4
namespace Go.Proofs.YtbafkhfkijmjcaaDoor
open Go.RowKit

set_option maxHeartbeats 1000000 in
theorem law_eqRec (k t : Int) (d : ByteArray) (w : World) :
    Calls Tryd.prog 35 #[recV k t d, recV k t d] w fun e w' => e = .returned (.bool true) ∧ Below w.heap.size w w' := by
  have e1 : (d.toList == d.toList) = true := by simp
  have e2 : (k != k) = false := by simp
  have e3 : (t != t) = false := by simp
  go_enter Tryd.func35, Tryd.ntmps35
  go_wp2
  go_ret
  exact ⟨rfl, ((Below.refl _ _).alloc (Nat.le_refl _) _).alloc (by simp) _⟩
set_option maxHeartbeats 1000000 in
theorem law_eqRecOut (k t : Int) (d : ByteArray) (c : Int) (w : World) :
    Calls Tryd.prog 17 #[recOut k t d c, recOut k t d c] w fun e w' => e = .returned (.bool true) ∧ Below w.heap.size w w' := by
  have e1 : (c != c) = false := by simp
  go_enter Tryd.func17, Tryd.ntmps17
  go_wp2_with fail
  refine (law_eqRec k t d _).mono ?_
  rintro e w1 ⟨rfl, hb1⟩
  have hz1 : w.heap.size + 1 < w1.heap.size := by have h := hb1.size; simp at h; omega
  have hc1 := fun o => hb1.cell (p := ⟨w.heap.size, o, none⟩) (by simp; omega)
  have hd1 := fun o => hb1.cell (p := ⟨w.heap.size + 1, o, none⟩) (by simp)
  have hB : Below w.heap.size w w1 := (((Below.refl _ _).alloc (Nat.le_refl _) _).alloc (by simp) _).trans (hb1.mono (by simp; omega))
  go_wp2
  go_ret
  exact ⟨rfl, hB⟩
set_option maxHeartbeats 1000000 in
theorem law_recRead (s : ByteArray) (w : World) (hm : s.size ≤ maxLen) (hT : utabs w) :
    Calls Tryd.prog 6 #[.string s] w fun e w' => e = .returned (.bool true) ∧ Below w.heap.size w w' := by
  by_cases hs : s.size ≤ 1048576
  · have HT : Hid (utabs w) := hT
    have HI : Hid _ := fun w h => impl_recRead s w hm h
    have HP : Hid _ := fun w => spec_recRead s w hm
    generalize readRes s = R at HI HP
    obtain ⟨k, t, d, c⟩ := R
    clear hT hm
    go_enter Tryd.func6, Tryd.ntmps6
    go_wp2_with fail
    refine (HP.out _).mono ?_
    rintro e w1 ⟨rfl, hb1⟩
    have HT1 : Hid (utabs (w1.alloc (.cells #[.int .i64 k, .int .i64 t, .string d, .int .i64 (c : Int)] 29))) := utabs_alloc (utabs_below HT.out hb1) _
    go_wp2_with fail
    refine (HI.out _ HT1.out).mono ?_
    rintro e w2 ⟨rfl, hb2⟩
    have hc2 := fun o => hb2.cell (p := ⟨w1.heap.size, o, none⟩) (by simp)
    have hf2 := fun o => hb2.frozen (p := ⟨w1.heap.size, o, none⟩) (by simp)
    have hz2 : w1.heap.size < w2.heap.size := by have := hb2.size; simp at this; omega
    go_wp2_with fail
    refine (law_eqRecOut k t d c _).mono ?_
    rintro e w3 ⟨rfl, hb3⟩
    have hz1 := hb1.size
    have hB : Below w.heap.size w w3 := (((hb1.alloc hz1 _).trans (hb2.mono (by simp; omega))).alloc (by omega) _).trans (hb3.mono (by simp; omega))
    clear hc2 hf2 hb1 hb2 hb3
    go_wp2
    go_ret
    exact ⟨rfl, hB⟩
  · unfold maxLen at hm
    go_enter Tryd.func6, Tryd.ntmps6
    go_wp2
    go_ret
    exact ⟨rfl, Below.refl _ _⟩
end Go.Proofs.YtbafkhfkijmjcaaDoor
