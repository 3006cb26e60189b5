import Derived.Test.YtahccighonddaaaGreatDoorLawRing4
import Derived.Deep.Onto
namespace Go.Proofs.YtahccighonddaaaGreatDoor
open Go.RowKit
theorem cell_of_block0 {w : World} {g : Nat} {C : Array Value} {t : TypeId} (h : w.heap[g]? = some (.cells C t (0,0))) (o : Nat) : w.cell? ⟨g,o,none⟩ = C[o]? := by
  simp [World.cell?,h]
theorem unfrozen_of_block0 {w : World} {g : Nat} {C : Array Value} {t : TypeId} (h : w.heap[g]? = some (.cells C t (0,0))) (o : Nat) : w.frozen? ⟨g,o,none⟩ = false := by
  simp [World.frozen?,h]
set_option maxHeartbeats 1000000 in
theorem law_toRing (cap first : Int) (ra : Option Addr) (rl rc : Nat) (ca : Option Addr) (cl cc : Nat) (recs : List ByteArray) (curs : List (Int × Int)) (w : World) (hr : Strs w ra rl recs) (hc : Curs w ca cl curs) (hrl : rl ≤ 1048576) (hcl : cl ≤ 1048576) :
    Calls Tryz.prog 84 #[ringV cap first ra rl rc ca cl cc] w fun e w' => ∃ a c,e = .returned (ringV cap first (some ⟨a,0,none⟩) rl rl (some ⟨c,0,none⟩) cl cl) ∧ OwnRing w' w.heap.size (some ⟨a,0,none⟩) rl rl (some ⟨c,0,none⟩) cl cl (recs.map Value.string) (curCells curs) ∧ Below w.heap.size w w' := by
  have HR : Hid (Strs w ra rl recs) := hr
  have HC : Hid (Curs w ca cl curs) := hc
  clear hr hc
  go_enter Tryz.func84,Tryz.ntmps84
  go_wp2_with fail
  obtain ⟨W0,hW0⟩ : ∃ W0,(((w.alloc (.cells #[.int .i64 cap,.int .i64 first,.slice ra rl rc,.slice ca cl cc] 107)).alloc (.cells #[.int .i64 0,.int .i64 0,.slice none 0 0,.slice none 0 0] 63)).alloc (.cells #[.int .i64 cap,.int .i64 first,.slice none 0 0,.slice none 0 0] 63)) = W0 := ⟨_,rfl⟩
  have hB0 : Below w.heap.size w W0 := by rw [← hW0]; exact (((Below.refl _ _).alloc (Nat.le_refl _) _).alloc (by simp) _).alloc (by simp; omega) _
  have hz0 : W0.heap.size = w.heap.size + 3 := by rw [← hW0]; simp
  have b0 : W0.heap[w.heap.size]? = some (.cells #[.int .i64 cap,.int .i64 first,.slice ra rl rc,.slice ca cl cc] 107 (0,0)) := by
    rw [← hW0]; exact (Below.heap_alloc _ _ _ (by simp; omega)).trans ((Below.heap_alloc _ _ _ (by simp)).trans (heap_alloc_new _ _))
  have b1 : W0.heap[w.heap.size + 1]? = some (.cells #[.int .i64 0,.int .i64 0,.slice none 0 0,.slice none 0 0] 63 (0,0)) := by
    rw [← hW0]
    have h := heap_alloc_new (w.alloc (.cells #[.int .i64 cap,.int .i64 first,.slice ra rl rc,.slice ca cl cc] 107)) (.cells #[.int .i64 0,.int .i64 0,.slice none 0 0,.slice none 0 0] 63)
    rw [World.size_alloc] at h
    exact (Below.heap_alloc _ _ _ (by simp)).trans h
  have b2 : W0.heap[w.heap.size + 1 + 1]? = some (.cells #[.int .i64 cap,.int .i64 first,.slice none 0 0,.slice none 0 0] 63 (0,0)) := by
    rw [← hW0]
    have h := heap_alloc_new ((w.alloc (.cells #[.int .i64 cap,.int .i64 first,.slice ra rl rc,.slice ca cl cc] 107)).alloc (.cells #[.int .i64 0,.int .i64 0,.slice none 0 0,.slice none 0 0] 63)) (.cells #[.int .i64 cap,.int .i64 first,.slice none 0 0,.slice none 0 0] 63)
    rw [World.size_alloc,World.size_alloc] at h
    exact h
  rw [hW0]
  clear hW0
  have HB0 : Hid (Below w.heap.size w W0) := hB0
  refine (law_toStrs ra rl rc recs _ (strs_below HR.out HB0.out) hrl).mono ?_
  rintro e w1 ⟨rfl,ho1,hb1⟩
  obtain ⟨a,ha⟩ : ∃ a,W0.heap.size = a := ⟨_,rfl⟩
  rw [ha] at ho1 hb1 hz0 ⊢
  have d0 := (hb1.block w.heap.size (by omega)).trans b0
  have d1 := (hb1.block (w.heap.size + 1) (by omega)).trans b1
  have d2 := (hb1.block (w.heap.size + 1 + 1) (by omega)).trans b2
  have hz1 := hb1.size
  rw [ha] at hz1
  have HB1 : Hid (Below w.heap.size w w1) := HB0.out.trans (hb1.mono (by omega))
  have HO1 : Hid (w1.ownsRow a 9 1 (.slice (some ⟨a,0,none⟩) rl rl) rl (recs.map Value.string)) := ho1
  have h1z : w.heap.size + 1 + 1 < w1.heap.size := by omega
  have haz : w.heap.size + 1 + 1 < a := by omega
  clear hz0
  clear b0 b1 b2 hb1 ho1 hB0 ha
  have c03 : w1.cell? ⟨w.heap.size,3,none⟩ = some (.slice ca cl cc) := cell_of_block0 d0 3
  have c22 : w1.cell? ⟨w.heap.size + 1 + 1,2,none⟩ = some (.slice none 0 0) := cell_of_block0 d2 2
  have f2 := unfrozen_of_block0 d2 2
  have hW2 := heap_setCell_same w1 (w.heap.size + 1 + 1) 2 _ _ (.slice (some ⟨a,0,none⟩) rl rl) d2
  have d1' := (Below.heap_setCell w1 ⟨w.heap.size + 1 + 1,2,none⟩ (.slice (some ⟨a,0,none⟩) rl rl) (w.heap.size + 1) (by simp)).trans d1
  have HO1' := ownsRow_setCell_below HO1.out (a := ⟨w.heap.size + 1 + 1,2,none⟩) haz (.slice (some ⟨a,0,none⟩) rl rl)
  have HB1' := HB1.out.setCell (p := ⟨w.heap.size + 1 + 1,2,none⟩) (show w.heap.size ≤ w.heap.size + 1 + 1 by omega) (.slice (some ⟨a,0,none⟩) rl rl)
  go_wp2_with fail
  obtain ⟨W2,eW2⟩ : ∃ W2,w1.setCell ⟨w.heap.size + 1 + 1,2,none⟩ (.slice (some ⟨a,0,none⟩) rl rl) = W2 := ⟨_,rfl⟩
  have hz2 : W2.heap.size = w1.heap.size := by rw [← eW2]; simp [World.setCell]
  rw [eW2] at hW2 d1' HO1' HB1' ⊢
  have HB2 : Hid (Below w.heap.size w W2) := HB1'
  have HO2 : Hid (W2.ownsRow a 9 1 (.slice (some ⟨a,0,none⟩) rl rl) rl (recs.map Value.string)) := HO1'
  have hz2' : w.heap.size + 1 + 1 < W2.heap.size := by omega
  clear eW2 HO1' HB1' HO1 HB1 d0 d1 d2 c03 c22 f2 hz2 hz1
  refine (law_toCurs ca cl cc curs _ (curs_below HC.out HB2.out) hcl).mono ?_
  rintro e w3 ⟨rfl,ho3,hb3⟩
  have e1 := (hb3.block (w.heap.size + 1) (by omega)).trans d1'
  have e2 := (hb3.block (w.heap.size + 1 + 1) (by omega)).trans hW2
  have HO3 : Hid (w3.ownsRow a 9 1 (.slice (some ⟨a,0,none⟩) rl rl) rl (recs.map Value.string)) := HO2.out.kept (below_grown hb3) (.inr (by simp [Value.ownBlock]))
  have HB3 : Hid (Below w.heap.size w w3) := below_tr HB2.out hb3
  obtain ⟨c,hcc⟩ : ∃ c,W2.heap.size = c := ⟨_,rfl⟩
  rw [hcc] at ho3 hz2' ⊢
  have HC3 : Hid (w3.ownsRow c 96 2 (.slice (some ⟨c,0,none⟩) cl cl) cl (curCells curs)) := ho3
  clear hb3 ho3 hcc d1' hW2 HB2 HO2
  have e1c : ∀ o,w3.cell? ⟨w.heap.size + 1,o,none⟩ = _ := fun o => cell_of_block0 e1 o
  have e1f := unfrozen_of_block0 e1
  have e2c : ∀ o,w3.cell? ⟨w.heap.size + 1 + 1,o,none⟩ = _ := fun o => cell_of_block0 e2 o
  have e2f := unfrozen_of_block0 e2
  have HE : Hid _ := e1
  have HF : Hid _ := e2
  clear e1 e2
  go_wp2
  have k0 : w.heap.size + 1 < a := by omega
  have k1 : w.heap.size + 1 < c := by omega
  have k2 : w.heap.size ≤ w.heap.size + 1 + 1 := by omega
  have k3 : w.heap.size ≤ w.heap.size + 1 := by omega
  refine bodyPost_ret (v := ringV cap first (some ⟨a,0,none⟩) rl rl (some ⟨c,0,none⟩) cl cl) (by simp [results,Tryz.results84,go_sem,e1c]) rfl ⟨a,c,rfl,⟨?_,?_⟩,?_⟩
  · exact (ownsRow_setCell_below (ownsRow_setCell_below (ownsRow_setCell_below (ownsRow_setCell_below (ownsRow_setCell_below HO3.out (a := ⟨w.heap.size + 1 + 1,3,none⟩) haz _) (a := ⟨w.heap.size + 1,0,none⟩) k0 _) (a := ⟨w.heap.size + 1,1,none⟩) k0 _) (a := ⟨w.heap.size + 1,2,none⟩) k0 _) (a := ⟨w.heap.size + 1,3,none⟩) k0 _).mono (by omega)
  · exact (ownsRow_setCell_below (ownsRow_setCell_below (ownsRow_setCell_below (ownsRow_setCell_below (ownsRow_setCell_below HC3.out (a := ⟨w.heap.size + 1 + 1,3,none⟩) hz2' _) (a := ⟨w.heap.size + 1,0,none⟩) k1 _) (a := ⟨w.heap.size + 1,1,none⟩) k1 _) (a := ⟨w.heap.size + 1,2,none⟩) k1 _) (a := ⟨w.heap.size + 1,3,none⟩) k1 _).mono (by omega)
  · exact ((((HB3.out.setCell (p := ⟨w.heap.size + 1 + 1,3,none⟩) k2 _).setCell (p := ⟨w.heap.size + 1,0,none⟩) k3 _).setCell (p := ⟨w.heap.size + 1,1,none⟩) k3 _).setCell (p := ⟨w.heap.size + 1,2,none⟩) k3 _).setCell (p := ⟨w.heap.size + 1,3,none⟩) k3 _
end Go.Proofs.YtahccighonddaaaGreatDoor
