import Derived.Test.YtahccighonddaaaGreatDoorSpecFollow
import Derived.Test.YtahccighonddaaaGreatDoorRecBytes
namespace Go.Proofs.YtahccighonddaaaGreatDoor
open Go.RowKit
variable {cap first : Int} {ra ca : Option Addr} {rl rc cl cc : Nat}
def recText (k t : Int) (d : ByteArray) : ByteArray := ⟨(recBytes k t d).toArray⟩
def putR (cap first : Int) (recs : List ByteArray) (curs : List (Int × Int)) (k t : Int) (d : ByteArray) : RO :=
  if ringRightB cap first recs curs = false ∨ recRightB k t d = false then RO.ill 1 else if (recs.length : Int) = cap ∨ first + (recs.length : Int) = 1000000 then RO.ill 9
  else RO.ring cap first (recs ++ [recText k t d]) curs
abbrev precObj (k t : Int) (d : ByteArray) : Obj := .cells #[.int .i64 k, .int .i64 t, .string d] 65 (0, 0)
theorem blk1_lt {u : World} {i : Nat} {o : Obj} (h : u.heap[i]? = some o) : i < u.heap.size := (Array.getElem?_eq_some_iff.1 h).1
theorem blk1 {u v : World} {i : Nat} {o : Obj} (h : u.heap[i]? = some o) (hb : Below u.heap.size u v) : v.heap[i]? = some o := (hb.block i (Array.getElem?_eq_some_iff.1 h).1).trans h
theorem strIn_set {W : World} {a : Option Addr} {n c B j : Nat} {l : List ByteArray} {x0 x1 : Int} {y0 y1 : Option Addr} {n0 n1 m0 m1 : Nat} {v : Value} (h : StrIn W a n c l) (hb : W.heap[B]? = some (ringObj x0 x1 y0 n0 m0 y1 n1 m1)) : StrIn (W.setCell ⟨B, j, none⟩ v) a n c l := by
  refine ⟨⟨h.strs.1, fun i hi => ?_⟩, fun x e => by simpa [World.setCell] using h.lt x e, h.nil, h.cap, h.off⟩
  obtain ⟨b, off, e, hc⟩ := h.strs.2 i hi
  refine ⟨b, off, e, ?_⟩
  have hne : b ≠ B := fun e' => by
    subst e'
    rw [cell_of_block0 hb] at hc
    rcases (show off + i = 0 ∨ off + i = 1 ∨ off + i = 2 ∨ off + i = 3 ∨ 4 ≤ off + i by omega) with e' | e' | e' | e' | e'
    · rw [e'] at hc; simp at hc
    · rw [e'] at hc; simp at hc
    · rw [e'] at hc; simp at hc
    · rw [e'] at hc; simp at hc
    · rw [Array.getElem?_eq_none (by simpa using e')] at hc; cases hc
  rw [← hc]
  exact World.cell?_of_block (Below.heap_setCell W ⟨B, j, none⟩ v b hne)
theorem recText_size (k t : Int) (d : ByteArray) : (recText k t d).size ≤ 100 := by
  unfold recText
  rw [size_mk]
  unfold recBytes
  cases hR : recRightB k t d
  · simp
  · have h := (right_iff.1 hR).2.2.1
    have h1 := num_len k
    have h2 := num_len t
    have h3 := num_len (d.data.toList.length : Int)
    have hsz : d.data.toList.length = d.size := by simp
    simp only [if_true, sealBytes, recBody, textBytes, List.length_append, four_len]
    omega
set_option maxRecDepth 100000 in
set_option maxHeartbeats 4000000 in
theorem impl_withRec (b : Nat) (d0 st0 l0 : Int) (recs : List ByteArray) (k t : Int) (d : ByteArray) (w : World) (hw : Work w b cap first ra rl rc ca cl cc d0 st0 l0) (hr : StrIn w ra rl rc recs) (hrl : rl ≤ 1048576) (hrc : rc ≤ maxLen) (hT : utabs w) (hd : d.size ≤ maxLen) :
    Calls Tryz.prog 201 #[.pointer (some ⟨b, 0, none⟩), recV k t d] w fun e w' => ∃ a c, e = .returned (ringV cap first a (rl + 1) c ca cl cc) ∧ StrIn w' a (rl + 1) c (recs ++ [recText k t d]) ∧ Below w.heap.size w w' := by
  obtain ⟨c0, c1, c2, c3, c4, c5, c6, c7⟩ := work_cells hw
  have hlt := hw.lt
  have HR : Hid (StrIn w ra rl rc recs) := hr
  have HT : Hid (utabs w) := hT
  have HL : Hid (recs.length = rl) := hr.strs.1
  have HRB : Hid (∀ w, utabs w → Calls Tryz.prog 223 #[recV k t d] w fun e w' => e = .returned (.string (recText k t d)) ∧ Below w.heap.size w w') := fun w h => impl_recBytes k t d w hd h
  have HWI : Hid (∀ w, StrIn w ra rl rc recs → Calls Tryz.prog 222 #[.slice ra rl rc, .int .i64 rl, .string (recText k t d)] w fun e w' => ∃ a' c', e = .returned (.slice a' (rl + 1) c') ∧ StrIn w' a' (rl + 1) c' (recs ++ [recText k t d]) ∧ Below w.heap.size w w') := fun w h => (impl_withS ra rl rc rl recs (recText k t d) w h (Nat.le_refl _) hrc hrl).mono fun e w' hh => by
    obtain ⟨a', c', h1, h2, h3⟩ := hh
    rw [List.take_of_length_le (by rw [HL.out]; exact Nat.le_refl _), List.drop_eq_nil_of_le (by rw [HL.out]; exact Nat.le_refl _)] at h2
    exact ⟨a', c', h1, h2, h3⟩
  obtain ⟨S, hS⟩ : ∃ S, recText k t d = S := ⟨_, rfl⟩
  rw [hS] at HRB HWI ⊢
  clear hw hr hT hd hS
  have HB0 : Hid (Below w.heap.size w (((w.alloc (precObj k t d)).alloc (ringObj 0 0 none 0 0 none 0 0)).alloc (ringObj cap first ra rl rc ca cl cc)).drew) := ((((Below.refl _ _).alloc (Nat.le_refl _) _).alloc (by simp) _).alloc (by simp; omega) _).drew
  have HX0 : Hid ((((w.alloc (precObj k t d)).alloc (ringObj 0 0 none 0 0 none 0 0)).alloc (ringObj cap first ra rl rc ca cl cc)).drew.heap[w.heap.size + 1]? = some (ringObj 0 0 none 0 0 none 0 0)) := by
    have h := heap_alloc_new (w.alloc (precObj k t d)) (ringObj 0 0 none 0 0 none 0 0)
    rw [World.size_alloc] at h
    exact (Below.heap_alloc _ _ _ (by simp)).trans h
  have HY0 : Hid ((((w.alloc (precObj k t d)).alloc (ringObj 0 0 none 0 0 none 0 0)).alloc (ringObj cap first ra rl rc ca cl cc)).drew.heap[w.heap.size + 1 + 1]? = some (ringObj cap first ra rl rc ca cl cc)) := by
    have h := heap_alloc_new ((w.alloc (precObj k t d)).alloc (ringObj 0 0 none 0 0 none 0 0)) (ringObj cap first ra rl rc ca cl cc)
    rw [World.size_alloc, World.size_alloc] at h
    exact h
  go_enter Tryz.func201, Tryz.ntmps201
  go_upto_region 2 with fail
  have HP0 : Hid ((((w.alloc (precObj k t d)).alloc (ringObj 0 0 none 0 0 none 0 0)).alloc (ringObj cap first ra rl rc ca cl cc)).heap[w.heap.size]? = some (precObj k t d)) := (Below.heap_alloc _ _ _ (by simp; omega)).trans ((Below.heap_alloc _ _ _ (by simp)).trans (heap_alloc_new _ _))
  obtain ⟨W0, hW0⟩ : ∃ W0, ((w.alloc (precObj k t d)).alloc (ringObj 0 0 none 0 0 none 0 0)).alloc (ringObj cap first ra rl rc ca cl cc) = W0 := ⟨_, rfl⟩
  rw [hW0] at HB0 HX0 HY0 HP0 ⊢
  clear hW0
  have c2 : W0.cell? ⟨b, 2, none⟩ = some (.slice ra rl rc) := (HB0.out.cell (p := ⟨b, 2, none⟩) hlt).trans c2
  have hp := fun o => cell_of_block0 HP0.out o
  have hlt0 : b < W0.heap.size := Nat.lt_of_lt_of_le hlt HB0.out.size
  have hzp : w.heap.size < W0.heap.size := blk1_lt HP0.out
  go_cut [] (fun wc => ∃ (a : Option Addr) (c : Nat), Hid (StrIn wc a (rl + 1) c (recs ++ [S])) ∧ Hid (Below w.heap.size w wc) ∧ Hid (wc.heap[w.heap.size + 1]? = some (ringObj 0 0 none 0 0 none 0 0)) ∧ Hid (wc.heap[w.heap.size + 1 + 1]? = some (ringObj cap first a (rl + 1) c ca cl cc)))
  case first =>
    first | (go_region_with (first
      | (go_at_call 223; refine (HRB.out _ (utabs_below HT.out HB0.out)).mono ?_; rintro e w1 ⟨rfl, hb1⟩; have HB1 : Hid (Below w.heap.size w w1) := below_tr HB0.out hb1; have HX1 : Hid (w1.heap[w.heap.size + 1]? = some (ringObj 0 0 none 0 0 none 0 0)) := blk1 HX0.out hb1; have HY1 : Hid (w1.heap[w.heap.size + 1 + 1]? = some (ringObj cap first ra rl rc ca cl cc)) := blk1 HY0.out hb1; have c2 := (hb1.cell (p := ⟨b, 2, none⟩) hlt0).trans c2; clear hb1)
      | (go_at_call 222; refine (HWI.out _ (HR.out.below HB1.out)).mono ?_; rintro e w2 ⟨a2, q2, rfl, hs2, hb2⟩; have HB2 : Hid (Below w.heap.size w w2) := below_tr HB1.out hb2; have HX2 : Hid (w2.heap[w.heap.size + 1]? = some (ringObj 0 0 none 0 0 none 0 0)) := blk1 HX1.out hb2; have HY2 : Hid (w2.heap[w.heap.size + 1 + 1]? = some (ringObj cap first ra rl rc ca cl cc)) := blk1 HY1.out hb2; have hy2 := fun o => cell_of_block0 HY2.out o; have hyf2 := fun o => unfrozen_of_block0 HY2.out o; have HS2 : Hid (StrIn w2 a2 (rl + 1) q2 (recs ++ [S])) := hs2; clear hb2 hs2))) | fail
    all_goals
      go_wp2_with fail
      go_meet
      exact ⟨a2, q2, strIn_set HS2.out HY2.out, HB2.out.setCell (p := ⟨w.heap.size + 1 + 1, 2, none⟩) (show w.heap.size ≤ w.heap.size + 1 + 1 by omega) _, (Below.heap_setCell w2 ⟨w.heap.size + 1 + 1, 2, none⟩ _ (w.heap.size + 1) (show w.heap.size + 1 ≠ w.heap.size + 1 + 1 by omega)).trans HX2.out, heap_setCell_same w2 (w.heap.size + 1 + 1) 2 _ _ _ HY2.out⟩
  case rest =>
  obtain ⟨a, c, HS, HB, HX, HY⟩ := hcut
  have hx := fun o => cell_of_block0 HX.out o
  have hxf := fun o => unfrozen_of_block0 HX.out o
  have hy := fun o => cell_of_block0 HY.out o
  go_wp2
  refine bodyPost_ret (v := ringV cap first a (rl + 1) c ca cl cc) (by simp [results, Tryz.results201, go_sem, hx]) rfl ⟨a, c, rfl, ?_, ?_⟩
  · exact strIn_set (strIn_set (strIn_set (strIn_set HS.out HX.out) (heap_setCell_same _ _ 0 _ _ _ HX.out)) (heap_setCell_same _ _ 1 _ _ _ (heap_setCell_same _ _ 0 _ _ _ HX.out))) (heap_setCell_same _ _ 2 _ _ _ (heap_setCell_same _ _ 1 _ _ _ (heap_setCell_same _ _ 0 _ _ _ HX.out)))
  · exact (((HB.out.setCell (p := ⟨w.heap.size + 1, 0, none⟩) (Nat.le_succ _) _).setCell (p := ⟨w.heap.size + 1, 1, none⟩) (Nat.le_succ _) _).setCell (p := ⟨w.heap.size + 1, 2, none⟩) (Nat.le_succ _) _).setCell (p := ⟨w.heap.size + 1, 3, none⟩) (Nat.le_succ _) _
end Go.Proofs.YtahccighonddaaaGreatDoor
