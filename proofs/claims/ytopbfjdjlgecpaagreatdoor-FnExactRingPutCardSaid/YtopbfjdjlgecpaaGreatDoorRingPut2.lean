import Derived.Test.YtopbfjdjlgecpaaGreatDoorRingLeave
import Derived.Test.YtopbfjdjlgecpaaGreatDoorRecBytes
/- RingPut of the program. -/
namespace Go.Proofs.YtopbfjdjlgecpaaGreatDoor
open Go.RowKit
variable {cap first : Int} {ra ca : Option Addr} {rl rc cl cc : Nat}

/-- A record's bytes as a text. -/
def recText (k t : Int) (d : ByteArray) : ByteArray := ⟨(recBytes k t d).toArray⟩
def putR (cap first : Int) (recs : List ByteArray) (curs : List (Int × Int)) (k t : Int) (d : ByteArray) : RO :=
  if ringRightB cap first recs curs = false ∨ recRightB k t d = false then RO.ill 1 else if (recs.length : Int) = cap ∨ first + (recs.length : Int) = 1000000 then RO.ill 9
  else RO.ring cap first (recs ++ [recText k t d]) curs
abbrev precObj (k t : Int) (d : ByteArray) : Obj := .cells #[.int .i64 k, .int .i64 t, .string d] 28 (0, 0)
theorem blk1_lt {u : World} {i : Nat} {o : Obj} (h : u.heap[i]? = some o) : i < u.heap.size := (Array.getElem?_eq_some_iff.1 h).1
theorem blk1 {u v : World} {i : Nat} {o : Obj} (h : u.heap[i]? = some o) (hb : Below u.heap.size u v) : v.heap[i]? = some o := (hb.block i (Array.getElem?_eq_some_iff.1 h).1).trans h
/-- A row of texts is no ring's box. -/
theorem strIn_set {W : World} {a : Option Addr} {n c B j : Nat} {l : List ByteArray} {x0 x1 : Int} {y0 y1 : Option Addr} {n0 n1 m0 m1 : Nat} {v : Value} (h : StrIn W a n c l) (hb : W.heap[B]? = some (ringObj x0 x1 y0 n0 m0 y1 n1 m1)) : StrIn (W.setCell ⟨B, j, none⟩ v) a n c l := by
  refine ⟨⟨h.strs.1, fun i hi => ?_⟩, fun x e => by simpa [World.setCell] using h.lt x e, h.nil, h.cap, h.off⟩
  obtain ⟨b, off, e, hc⟩ := h.strs.2 i hi
  refine ⟨b, off, e, ?_⟩
  have hne : b ≠ B := fun e' => by
    subst e'
    rw [cell_of_block0 hb] at hc
    rcases (show off + i = 0 ∨ off + i = 1 ∨ off + i = 2 ∨ off + i = 3 ∨ 4 ≤ off + i by omega) with e' | e' | e' | e' | e'
    · rw [e'] at hc; simp at hc
    · rw [e'] at hc; simp at hc
    · rw [e'] at hc; simp at hc
    · rw [e'] at hc; simp at hc
    · rw [Array.getElem?_eq_none (by simpa using e')] at hc; cases hc
  rw [← hc]
  exact World.cell?_of_block (Below.heap_setCell W ⟨B, j, none⟩ v b hne)
theorem recText_size (k t : Int) (d : ByteArray) : (recText k t d).size ≤ 100 := by
  unfold recText
  rw [size_mk]
  unfold recBytes
  cases hR : recRightB k t d
  · simp
  · have h := (right_iff.1 hR).2.2.1
    have h1 := num_len k
    have h2 := num_len t
    have h3 := num_len (d.data.toList.length : Int)
    have hsz : d.data.toList.length = d.size := by simp
    simp only [if_true, sealBytes, recBody, textBytes, List.length_append, four_len]
    omega
set_option maxRecDepth 100000 in
set_option maxHeartbeats 4000000 in
theorem impl_withRec (b : Nat) (d0 st0 l0 : Int) (recs : List ByteArray) (k t : Int) (d : ByteArray) (w : World) (hw : Work w b cap first ra rl rc ca cl cc d0 st0 l0) (hr : StrIn w ra rl rc recs) (hrl : rl ≤ 1048576) (hrc : rc ≤ maxLen) (hT : utabs w) (hd : d.size ≤ maxLen) :
    Calls Tryz.prog 50 #[.pointer (some ⟨b, 0, none⟩), recV k t d] w fun e w' => ∃ a c, e = .returned (ringV cap first a (rl + 1) c ca cl cc) ∧ StrIn w' a (rl + 1) c (recs ++ [recText k t d]) ∧ Below w.heap.size w w' := by
  obtain ⟨c0, c1, c2, c3, c4, c5, c6, c7⟩ := work_cells hw
  have hlt := hw.lt
  have HR : Hid (StrIn w ra rl rc recs) := hr
  have HT : Hid (utabs w) := hT
  have HL : Hid (recs.length = rl) := hr.strs.1
  have HRB : Hid (∀ w, utabs w → Calls Tryz.prog 94 #[recV k t d] w fun e w' => e = .returned (.string (recText k t d)) ∧ Below w.heap.size w w') := fun w h => impl_recBytes k t d w hd h
  have HWI : Hid (∀ w, StrIn w ra rl rc recs → Calls Tryz.prog 93 #[.slice ra rl rc, .int .i64 rl, .string (recText k t d)] w fun e w' => ∃ a' c', e = .returned (.slice a' (rl + 1) c') ∧ StrIn w' a' (rl + 1) c' (recs ++ [recText k t d]) ∧ Below w.heap.size w w') := fun w h => (impl_withS ra rl rc rl recs (recText k t d) w h (Nat.le_refl _) hrc hrl).mono fun e w' hh => by
    obtain ⟨a', c', h1, h2, h3⟩ := hh
    rw [List.take_of_length_le (by rw [HL.out]; exact Nat.le_refl _), List.drop_eq_nil_of_le (by rw [HL.out]; exact Nat.le_refl _)] at h2
    exact ⟨a', c', h1, h2, h3⟩
  obtain ⟨S, hS⟩ : ∃ S, recText k t d = S := ⟨_, rfl⟩
  rw [hS] at HRB HWI ⊢
  clear hw hr hT hd hS
  have HB0 : Hid (Below w.heap.size w (((w.alloc (precObj k t d)).alloc (ringObj 0 0 none 0 0 none 0 0)).alloc (ringObj cap first ra rl rc ca cl cc)).drew) := ((((Below.refl _ _).alloc (Nat.le_refl _) _).alloc (by simp) _).alloc (by simp; omega) _).drew
  have HX0 : Hid ((((w.alloc (precObj k t d)).alloc (ringObj 0 0 none 0 0 none 0 0)).alloc (ringObj cap first ra rl rc ca cl cc)).drew.heap[w.heap.size + 1]? = some (ringObj 0 0 none 0 0 none 0 0)) := by
    have h := heap_alloc_new (w.alloc (precObj k t d)) (ringObj 0 0 none 0 0 none 0 0)
    rw [World.size_alloc] at h
    exact (Below.heap_alloc _ _ _ (by simp)).trans h
  have HY0 : Hid ((((w.alloc (precObj k t d)).alloc (ringObj 0 0 none 0 0 none 0 0)).alloc (ringObj cap first ra rl rc ca cl cc)).drew.heap[w.heap.size + 1 + 1]? = some (ringObj cap first ra rl rc ca cl cc)) := by
    have h := heap_alloc_new ((w.alloc (precObj k t d)).alloc (ringObj 0 0 none 0 0 none 0 0)) (ringObj cap first ra rl rc ca cl cc)
    rw [World.size_alloc, World.size_alloc] at h
    exact h
  go_enter Tryz.func50, Tryz.ntmps50
  go_upto_region 2 with fail
  have HP0 : Hid ((((w.alloc (precObj k t d)).alloc (ringObj 0 0 none 0 0 none 0 0)).alloc (ringObj cap first ra rl rc ca cl cc)).heap[w.heap.size]? = some (precObj k t d)) := (Below.heap_alloc _ _ _ (by simp; omega)).trans ((Below.heap_alloc _ _ _ (by simp)).trans (heap_alloc_new _ _))
  obtain ⟨W0, hW0⟩ : ∃ W0, ((w.alloc (precObj k t d)).alloc (ringObj 0 0 none 0 0 none 0 0)).alloc (ringObj cap first ra rl rc ca cl cc) = W0 := ⟨_, rfl⟩
  rw [hW0] at HB0 HX0 HY0 HP0 ⊢
  clear hW0
  have c2 : W0.cell? ⟨b, 2, none⟩ = some (.slice ra rl rc) := (HB0.out.cell (p := ⟨b, 2, none⟩) hlt).trans c2
  have hp := fun o => cell_of_block0 HP0.out o
  have hlt0 : b < W0.heap.size := Nat.lt_of_lt_of_le hlt HB0.out.size
  have hzp : w.heap.size < W0.heap.size := blk1_lt HP0.out
  go_cut [] (fun wc => ∃ (a : Option Addr) (c : Nat), Hid (StrIn wc a (rl + 1) c (recs ++ [S])) ∧ Hid (Below w.heap.size w wc) ∧ Hid (wc.heap[w.heap.size + 1]? = some (ringObj 0 0 none 0 0 none 0 0)) ∧ Hid (wc.heap[w.heap.size + 1 + 1]? = some (ringObj cap first a (rl + 1) c ca cl cc)))
  case first =>
    first | (go_region_with (first
      | (go_at_call 94; refine (HRB.out _ (utabs_below HT.out HB0.out)).mono ?_; rintro e w1 ⟨rfl, hb1⟩; have HB1 : Hid (Below w.heap.size w w1) := below_tr HB0.out hb1; have HX1 : Hid (w1.heap[w.heap.size + 1]? = some (ringObj 0 0 none 0 0 none 0 0)) := blk1 HX0.out hb1; have HY1 : Hid (w1.heap[w.heap.size + 1 + 1]? = some (ringObj cap first ra rl rc ca cl cc)) := blk1 HY0.out hb1; have c2 := (hb1.cell (p := ⟨b, 2, none⟩) hlt0).trans c2; clear hb1)
      | (go_at_call 93; refine (HWI.out _ (HR.out.below HB1.out)).mono ?_; rintro e w2 ⟨a2, q2, rfl, hs2, hb2⟩; have HB2 : Hid (Below w.heap.size w w2) := below_tr HB1.out hb2; have HX2 : Hid (w2.heap[w.heap.size + 1]? = some (ringObj 0 0 none 0 0 none 0 0)) := blk1 HX1.out hb2; have HY2 : Hid (w2.heap[w.heap.size + 1 + 1]? = some (ringObj cap first ra rl rc ca cl cc)) := blk1 HY1.out hb2; have hy2 := fun o => cell_of_block0 HY2.out o; have hyf2 := fun o => unfrozen_of_block0 HY2.out o; have HS2 : Hid (StrIn w2 a2 (rl + 1) q2 (recs ++ [S])) := hs2; clear hb2 hs2))) | fail
    all_goals
      go_wp2_with fail
      go_meet
      exact ⟨a2, q2, strIn_set HS2.out HY2.out, HB2.out.setCell (p := ⟨w.heap.size + 1 + 1, 2, none⟩) (show w.heap.size ≤ w.heap.size + 1 + 1 by omega) _, (Below.heap_setCell w2 ⟨w.heap.size + 1 + 1, 2, none⟩ _ (w.heap.size + 1) (show w.heap.size + 1 ≠ w.heap.size + 1 + 1 by omega)).trans HX2.out, heap_setCell_same w2 (w.heap.size + 1 + 1) 2 _ _ _ HY2.out⟩
  case rest =>
  obtain ⟨a, c, HS, HB, HX, HY⟩ := hcut
  have hx := fun o => cell_of_block0 HX.out o
  have hxf := fun o => unfrozen_of_block0 HX.out o
  have hy := fun o => cell_of_block0 HY.out o
  go_wp2
  refine bodyPost_ret (v := ringV cap first a (rl + 1) c ca cl cc) (by simp [results, Tryz.results50, go_sem, hx]) rfl ⟨a, c, rfl, ?_, ?_⟩
  · exact strIn_set (strIn_set (strIn_set (strIn_set HS.out HX.out) (heap_setCell_same _ _ 0 _ _ _ HX.out)) (heap_setCell_same _ _ 1 _ _ _ (heap_setCell_same _ _ 0 _ _ _ HX.out))) (heap_setCell_same _ _ 2 _ _ _ (heap_setCell_same _ _ 1 _ _ _ (heap_setCell_same _ _ 0 _ _ _ HX.out)))
  · exact (((HB.out.setCell (p := ⟨w.heap.size + 1, 0, none⟩) (Nat.le_succ _) _).setCell (p := ⟨w.heap.size + 1, 1, none⟩) (Nat.le_succ _) _).setCell (p := ⟨w.heap.size + 1, 2, none⟩) (Nat.le_succ _) _).setCell (p := ⟨w.heap.size + 1, 3, none⟩) (Nat.le_succ _) _
end Go.Proofs.YtopbfjdjlgecpaaGreatDoor
/- RingPut of the program: the whole. -/
namespace Go.Proofs.YtopbfjdjlgecpaaGreatDoor
open Go.RowKit
variable {cap first : Int} {ra ca : Option Addr} {rl rc cl cc : Nat}

/-- The world ahead of a ring's work: its box, the record's, and the answer's. -/
abbrev W3 (w : World) (cap first : Int) (ra : Option Addr) (rl rc : Nat) (ca : Option Addr) (cl cc : Nat) (k t : Int) (d : ByteArray) : World := ((w.alloc (ringObj cap first ra rl rc ca cl cc)).alloc (precObj k t d)).alloc outObj0
theorem w3_below (w : World) (cap first : Int) (ra : Option Addr) (rl rc : Nat) (ca : Option Addr) (cl cc : Nat) (k t : Int) (d : ByteArray) : Below w.heap.size w (W3 w cap first ra rl rc ca cl cc k t d) := (((Below.refl _ _).alloc (Nat.le_refl _) _).alloc (by simp) _).alloc (by simp; omega) _
theorem ans_put {w W : World} {cap first : Int} {recs rs : List ByteArray} {curs : List (Int × Int)} {a b : Option Addr} {n q m p base : Nat} {r : RO} (hr : r = RO.ring cap first recs curs) (hc : rs = recs) (hn : rs.length = n) (hm : curs.length = m) (ho : OwnRing W base a n q b m p (rs.map Value.string) (curCells curs)) (hB : Below w.heap.size w W) (j : Nat) (hj : w.heap.size ≤ j) (hb : j < base) (v0 v1 v2 v3 v4 v5 v6 v7 : Value) :
    Answers w (set8 W j v0 v1 v2 v3 v4 v5 v6 v7) (.returned (ringOutV cap first a n q b m p 0 0 ⟨#[]⟩ 0)) r := by
  subst hr hc hn hm
  exact ans_ring (RO.ring cap first rs curs) ho hB j hj hb _ _ _ _ _ _ _ _
set_option maxRecDepth 100000 in
set_option maxHeartbeats 4000000 in
theorem impl_ringPut (recs : List ByteArray) (curs : List (Int × Int)) (k t : Int) (d : ByteArray) (w : World) (hi : RFit w ra rl rc ca cl cc recs curs) (hd : d.size ≤ maxLen) (hT : utabs w) :
    Calls Tryz.prog 7 #[ringV cap first ra rl rc ca cl cc, recV k t d] w fun e w' => Answers w w' e (putR cap first recs curs k t d) := by
  have HI : Hid (RFit w ra rl rc ca cl cc recs curs) := hi
  have HT : Hid (utabs w) := hT
  have hcl : cl ≤ 1048576 := hi.cle
  have hrl : rl ≤ 1048576 := hi.rle
  have HL : Hid (curs.length = cl) := hi.cur.curs.1
  have HRL : Hid (recs.length = rl) := hi.str.strs.1
  have HRR0 : Hid _ := fun w h => impl_recRight k t d w hd h
  clear hi hT
  have HB0 : Hid (Below w.heap.size w (W3 w cap first ra rl rc ca cl cc k t d)) := w3_below ..
  go_enter Tryz.func7, Tryz.ntmps7
  go_wp2_with fail
  refine (impl_atWork _).mono ?_
  rintro e w1 ⟨rfl, hb1, hw1, hz1⟩
  obtain ⟨b, hb⟩ : ∃ b, (W3 w cap first ra rl rc ca cl cc k t d).heap.size + 1 = b := ⟨_, rfl⟩
  have hbb : w.heap.size + 3 ≤ b := by rw [← hb]; simp
  rw [hb] at hw1 ⊢
  have HA : Hid _ := fun (_ : Unit) => impl_asked recs curs b w w1 HI.out.rin HT.out (below_tr HB0.out hb1) (by omega) hw1
  have HK : Hid (∀ w2, w1.grownBy w2 (some b) → Below (W3 w cap first ra rl rc ca cl cc k t d).heap.size (W3 w cap first ra rl rc ca cl cc k t d) w2) := fun w2 hg => keep_blocks hb1 hg (by simp; omega)
  clear hb1 hw1 hz1 hb
  obtain ⟨R, hR⟩ : ∃ R, ringRightB cap first recs curs = R := ⟨_, rfl⟩
  obtain ⟨E, hE⟩ : ∃ E, recRightB k t d = E := ⟨_, rfl⟩
  have HF : Hid (putR cap first recs curs k t d = if R = false ∨ E = false then RO.ill 1 else if (recs.length : Int) = cap ∨ first + (recs.length : Int) = 1000000 then RO.ill 9 else RO.ring cap first (recs ++ [recText k t d]) curs) := by rw [← hR, ← hE]; rfl
  rw [hR] at HA
  rw [hE] at HRR0
  have HRR : Hid (R = true → (0 ≤ first ∧ first ≤ 1000000) ∧ (4 ≤ cap ∧ cap ≤ 16) ∧ (rl : Int) ≤ cap ∧ first + (rl : Int) ≤ 1000000) := fun h => by have := right_first (hR.trans h); rw [HRL.out] at this; exact ⟨this.1, this.2.1, this.2.2.1, this.2.2.2.1⟩
  clear hR hE
  go_wp2_with fail
  refine (HA.out ()).mono ?_
  rintro e w2 ⟨rfl, hA2, hg2⟩
  have HA2 : Hid (Asked w w2 b cap first ra rl rc ca cl cc curs) := hA2
  have HW2 : Hid (Below (W3 w cap first ra rl rc ca cl cc k t d).heap.size (W3 w cap first ra rl rc ca cl cc k t d) w2) := HK.out w2 hg2
  clear hA2 hg2 HA HK
  have hc2 := fun o => HW2.out.cell (p := ⟨w.heap.size + 1 + 1, o, none⟩) (by simp)
  have hf2 := fun o => HW2.out.frozen (p := ⟨w.heap.size + 1 + 1, o, none⟩) (by simp)
  have hd2 := fun o => HW2.out.cell (p := ⟨w.heap.size + 1, o, none⟩) (by simp only [World.size_alloc]; omega)
  cases R
  · have hE : Hid (putR cap first recs curs k t d = RO.ill 1) := HF.out.trans (if_pos (.inl rfl))
    clear HF
    go_wp2
    refine bodyPost_ret (v := ringIll 1) (by simp [results, Tryz.results7, go_sem, hc2]) rfl ?_
    rw [hE.out]
    exact ans_ill 1 HA2.out.below _ (by omega) _ _ _ _ _ _ _ _
  · obtain ⟨HFT, HCP, hrc, hen⟩ := HRR.out rfl
    clear HRR
    obtain ⟨d0, l0, hW, hK⟩ := HA2.out.work
    have HW : Hid (Work w2 b cap first ra rl rc ca cl cc d0 0 l0) := hW
    clear hW hK
    go_wp2_with fail
    refine (HRR0.out _ (utabs_below HT.out HA2.out.below)).mono ?_
    rintro e w3 ⟨rfl, hb3⟩
    have HB3 : Hid (Below w.heap.size w w3) := below_tr HA2.out.below hb3
    have HW3 : Hid (Below (W3 w cap first ra rl rc ca cl cc k t d).heap.size (W3 w cap first ra rl rc ca cl cc k t d) w3) := below_tr HW2.out hb3
    have HWk3 : Hid (Work w3 b cap first ra rl rc ca cl cc d0 0 l0) := HW.out.below hb3
    clear hb3 HW hc2 hf2 hd2
    have hc3 := fun o => HW3.out.cell (p := ⟨w.heap.size + 1 + 1, o, none⟩) (by simp)
    have hf3 := fun o => HW3.out.frozen (p := ⟨w.heap.size + 1 + 1, o, none⟩) (by simp)
    cases E
    · have hE : Hid (putR cap first recs curs k t d = RO.ill 1) := HF.out.trans (if_pos (.inr rfl))
      clear HF
      go_wp2
      refine bodyPost_ret (v := ringIll 1) (by simp [results, Tryz.results7, go_sem, hc3]) rfl ?_
      rw [hE.out]
      exact ans_ill 1 HB3.out _ (by omega) _ _ _ _ _ _ _ _
    · have HF2 : Hid (putR cap first recs curs k t d = if (recs.length : Int) = cap ∨ first + (recs.length : Int) = 1000000 then RO.ill 9 else RO.ring cap first (recs ++ [recText k t d]) curs) := HF.out.trans (if_neg (by simp))
      clear HF
      go_wp2_with fail
      refine (impl_room b d0 0 l0 _ HWk3.out (by omega) hrl).mono ?_
      rintro e w4 ⟨rfl, hb4⟩
      have HB4 : Hid (Below w.heap.size w w4) := below_tr HB3.out hb4
      have HW4 : Hid (Below (W3 w cap first ra rl rc ca cl cc k t d).heap.size (W3 w cap first ra rl rc ca cl cc k t d) w4) := below_tr HW3.out hb4
      have HWk4 : Hid (Work w4 b cap first ra rl rc ca cl cc d0 0 l0) := HWk3.out.below hb4
      clear hb4 hc3 hf3 HWk3
      have hc4 := fun o => HW4.out.cell (p := ⟨w.heap.size + 1 + 1, o, none⟩) (by simp)
      have hf4 := fun o => HW4.out.frozen (p := ⟨w.heap.size + 1 + 1, o, none⟩) (by simp)
      by_cases h1 : (rl : Int) = cap
      · have hE : Hid (putR cap first recs curs k t d = RO.ill 9) := HF2.out.trans (if_pos (.inl (by rw [HRL.out]; exact h1)))
        have h1b : (cap - (rl : Int) == 0) = true := by rw [beq_iff_eq]; omega
        clear HF2
        go_wp2
        refine bodyPost_ret (v := ringIll 9) (by simp [results, Tryz.results7, go_sem, hc4]) rfl ?_
        rw [hE.out]
        exact ans_ill 9 HB4.out _ (by omega) _ _ _ _ _ _ _ _
      · have h1b : (cap - (rl : Int) == 0) = false := by rw [beq_eq_false_iff_ne]; omega
        go_wp2_with fail
        refine (impl_end b d0 0 l0 _ HWk4.out HFT hrl).mono ?_
        rintro e w5 ⟨rfl, hb5⟩
        have HB5 : Hid (Below w.heap.size w w5) := below_tr HB4.out hb5
        have HW5 : Hid (Below (W3 w cap first ra rl rc ca cl cc k t d).heap.size (W3 w cap first ra rl rc ca cl cc k t d) w5) := below_tr HW4.out hb5
        have HWk5 : Hid (Work w5 b cap first ra rl rc ca cl cc d0 0 l0) := HWk4.out.below hb5
        clear hb5 hc4 hf4 HWk4
        have hc5 := fun o => HW5.out.cell (p := ⟨w.heap.size + 1 + 1, o, none⟩) (by simp)
        have hf5 := fun o => HW5.out.frozen (p := ⟨w.heap.size + 1 + 1, o, none⟩) (by simp)
        by_cases h2 : first + (rl : Int) = 1000000
        · have hE : Hid (putR cap first recs curs k t d = RO.ill 9) := HF2.out.trans (if_pos (.inr (by rw [HRL.out]; exact h2)))
          have h2b : (first + (rl : Int) == 1000000) = true := by rw [beq_iff_eq]; omega
          clear HF2
          go_wp2
          refine bodyPost_ret (v := ringIll 9) (by simp [results, Tryz.results7, go_sem, hc5]) rfl ?_
          rw [hE.out]
          exact ans_ill 9 HB5.out _ (by omega) _ _ _ _ _ _ _ _
        · have h2b : (first + (rl : Int) == 1000000) = false := by rw [beq_eq_false_iff_ne]; omega
          have hE : Hid (putR cap first recs curs k t d = RO.ring cap first (recs ++ [recText k t d]) curs) := HF2.out.trans (if_neg (by rw [HRL.out]; omega))
          clear HF2
          have hd5 := fun o => HW5.out.cell (p := ⟨w.heap.size + 1, o, none⟩) (by simp only [World.size_alloc]; omega)
          go_wp2_with fail
          refine (impl_withRec b d0 0 l0 recs k t d _ HWk5.out (HI.out.str.below HB5.out) hrl HI.out.rcm (utabs_below HT.out HB5.out) hd).mono ?_
          rintro e w6 ⟨a6, c6, rfl, hs6, hb6⟩
          have HB6 : Hid (Below w.heap.size w w6) := below_tr HB5.out hb6
          have HW6 : Hid (Below (W3 w cap first ra rl rc ca cl cc k t d).heap.size (W3 w cap first ra rl rc ca cl cc k t d) w6) := below_tr HW5.out hb6
          have HS6 : Hid (StrIn w6 a6 (rl + 1) c6 (recs ++ [recText k t d])) := hs6
          have HSZ : Hid (∀ s ∈ recs ++ [recText k t d], s.size ≤ 1048576) := fun s hs => by
            rcases List.mem_append.1 hs with h | h
            · exact HI.out.sz s h
            · rw [List.mem_singleton.1 h]; have := recText_size k t d; omega
          clear hb6 hs6 hc5 hf5 hd5
          go_wp2_with fail
          refine (impl_copyRing cap first a6 (rl + 1) c6 ca cl cc (recs ++ [recText k t d]) curs _ HS6.out (HI.out.cur.below HB6.out) HSZ.out (by omega) (by omega)).mono ?_
          rintro e w7 ⟨a, q, c, p, rfl, ho7, hb7⟩
          have HB7 : Hid (Below w.heap.size w w7) := below_tr HB6.out hb7
          have HW7 : Hid (Below (W3 w cap first ra rl rc ca cl cc k t d).heap.size (W3 w cap first ra rl rc ca cl cc k t d) w7) := below_tr HW6.out hb7
          have HO7 : Hid (OwnRing w7 w6.heap.size a (rl + 1) q c cl p ((recs ++ [recText k t d]).map Value.string) (curCells curs)) := ho7
          have hz6 : w.heap.size + 1 + 1 < w6.heap.size := by have h := HW6.out.size; simp at h; omega
          clear hb7 ho7
          have hc7 := fun o => HW7.out.cell (p := ⟨w.heap.size + 1 + 1, o, none⟩) (by simp)
          have hf7 := fun o => HW7.out.frozen (p := ⟨w.heap.size + 1 + 1, o, none⟩) (by simp)
          go_wp2
          refine bodyPost_ret (v := ringOutV cap first a (rl + 1) q c cl p 0 0 ⟨#[]⟩ 0) (by simp [results, Tryz.results7, go_sem, hc7]) rfl ?_
          exact ans_put hE.out rfl (by rw [List.length_append, HRL.out]; rfl) HL.out HO7.out HB7.out _ (by omega) hz6 _ _ _ _ _ _ _ _
end Go.Proofs.YtopbfjdjlgecpaaGreatDoor
