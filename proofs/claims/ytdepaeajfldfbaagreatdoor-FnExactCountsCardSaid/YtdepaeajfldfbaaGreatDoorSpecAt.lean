import Derived.Test.YtdepaeajfldfbaaGreatDoorRingLeave
import Derived.Test.YtdepaeajfldfbaaGreatDoorRingNew
import Derived.Test.YtdepaeajfldfbaaGreatDoorRecSpec4
import Derived.Deep.DeepCutAuto
/- The specification's rings: copies, cursors. -/
namespace Go.Proofs.YtdepaeajfldfbaaGreatDoor
open Go.RowKit
variable {cap first : Int} {ra ca : Option Addr} {rl rc cl cc : Nat}

/-- While the specification copies a ring: its box and the answer's. -/
structure SCopy (w wr : World) (cap first : Int) (va : Option Addr) (n vc : Nat) (qa : Option Addr) (m qc : Nat) : Prop where
  b0 : wr.heap[w.heap.size]? = some (ringObj cap first va n vc qa m qc)
  b1 : wr.heap[w.heap.size + 1]? = some (ringObj 0 0 none 0 0 none 0 0)
  below : Below w.heap.size w wr
  size : w.heap.size + 2 ≤ wr.heap.size
theorem SCopy.grown {w wr wx : World} {cap first : Int} {va : Option Addr} {n vc : Nat} {qa : Option Addr} {m qc : Nat} {row : Option Nat} (h : SCopy w wr cap first va n vc qa m qc) (hg : wr.grownBy wx row) (hr : ∀ j, row = some j → w.heap.size + 2 ≤ j) : SCopy w wx cap first va n vc qa m qc := by
  have hz := h.size
  exact ⟨(hg.block _ (by omega) (fun e => by have := hr _ e.symm; omega)).trans h.b0, (hg.block _ (by omega) (fun e => by have := hr _ e.symm; omega)).trans h.b1, h.below.grown hg (by omega) (fun j e => by have := hr j e; omega), Nat.le_trans h.size hg.size⟩
theorem SCopy.set2 {w wr : World} {cap first : Int} {va : Option Addr} {n vc : Nat} {qa : Option Addr} {m qc : Nat} (h : SCopy w wr cap first va n vc qa m qc) (va' : Option Addr) (n' vc' : Nat) : SCopy w (wr.setCell ⟨w.heap.size, 2, none⟩ (.slice va' n' vc')) cap first va' n' vc' qa m qc :=
  ⟨heap_setCell_same wr w.heap.size 2 _ _ _ h.b0, (Below.heap_setCell wr ⟨w.heap.size, 2, none⟩ _ (w.heap.size + 1) (show w.heap.size + 1 ≠ w.heap.size by omega)).trans h.b1, h.below.setCell (p := ⟨w.heap.size, 2, none⟩) (Nat.le_refl _) _, by simpa [World.setCell] using h.size⟩
theorem SCopy.set3 {w wr : World} {cap first : Int} {va : Option Addr} {n vc : Nat} {qa : Option Addr} {m qc : Nat} (h : SCopy w wr cap first va n vc qa m qc) (va' : Option Addr) (n' vc' : Nat) : SCopy w (wr.setCell ⟨w.heap.size, 3, none⟩ (.slice va' n' vc')) cap first va n vc va' n' vc' :=
  ⟨heap_setCell_same wr w.heap.size 3 _ _ _ h.b0, (Below.heap_setCell wr ⟨w.heap.size, 3, none⟩ _ (w.heap.size + 1) (show w.heap.size + 1 ≠ w.heap.size by omega)).trans h.b1, h.below.setCell (p := ⟨w.heap.size, 3, none⟩) (Nat.le_refl _) _, by simpa [World.setCell] using h.size⟩
theorem SCopy.set1 {w wr : World} {cap first : Int} {va : Option Addr} {n vc : Nat} {qa : Option Addr} {m qc : Nat} (h : SCopy w wr cap first va n vc qa m qc) (f : Int) : SCopy w (wr.setCell ⟨w.heap.size, 1, none⟩ (.int .i64 f)) cap f va n vc qa m qc :=
  ⟨heap_setCell_same wr w.heap.size 1 _ _ _ h.b0, (Below.heap_setCell wr ⟨w.heap.size, 1, none⟩ _ (w.heap.size + 1) (show w.heap.size + 1 ≠ w.heap.size by omega)).trans h.b1, h.below.setCell (p := ⟨w.heap.size, 1, none⟩) (Nat.le_refl _) _, by simpa [World.setCell] using h.size⟩
theorem scopy_start (w : World) (cap first : Int) (ra : Option Addr) (rl rc : Nat) (ca : Option Addr) (cl cc : Nat) : SCopy w ((w.alloc (ringObj cap first ra rl rc ca cl cc)).alloc (ringObj 0 0 none 0 0 none 0 0)) cap first ra rl rc ca cl cc := by
  refine ⟨(Below.heap_alloc _ _ _ (by simp)).trans (heap_alloc_new _ _), ?_, ((Below.refl _ _).alloc (Nat.le_refl _) _).alloc (by simp) _, by simp⟩
  have h := heap_alloc_new (w.alloc (ringObj cap first ra rl rc ca cl cc)) (ringObj 0 0 none 0 0 none 0 0)
  rwa [World.size_alloc] at h
theorem SCopy.alloc {w wr : World} {cap first : Int} {va : Option Addr} {n vc : Nat} {qa : Option Addr} {m qc : Nat} (h : SCopy w wr cap first va n vc qa m qc) (o : Obj) : SCopy w (wr.alloc o) cap first va n vc qa m qc := h.grown (World.grownBy_alloc wr o none) (fun j e => by cases e)
theorem scopy_row (w : World) (o o' : Obj) (t : TypeId) (size : Nat := 1) : (((w.alloc o).alloc o').alloc (.cells #[] t)).ownsRow (w.heap.size + 2) t size (.slice (some ⟨w.heap.size + 1 + 1, 0, none⟩) 0 0) 0 [] := by
  have h := World.ownsRow_lit (base := w.heap.size + 2) (e := t) (size := size) ((w.alloc o).alloc o') #[] 0 (by simp) (by unfold maxLen; omega) (by simp)
  simpa using h
theorem scopy_row2 (w : World) (p : Addr) (v : Value) (t : TypeId) (size : Nat := 2) : ((w.setCell p v).alloc (.cells #[] t)).ownsRow w.heap.size t size (.slice (some ⟨w.heap.size, 0, none⟩) 0 0) 0 [] := by
  have h := World.ownsRow_lit (base := w.heap.size) (e := t) (size := size) (w.setCell p v) #[] 0 (by simp [World.setCell]) (by unfold maxLen; omega) (by simp)
  simpa [World.setCell] using h
theorem scopy_keep {w w2 w4 : World} {n c : Nat} {a : Option Addr} {xs : List Value} {o : Obj} {v : Value} (h : w2.ownsRow (w.heap.size + 2) 9 1 (.slice a n c) n xs) (hg : ((w2.setCell ⟨w.heap.size, 2, none⟩ v).alloc o).grownBy w4 (Value.slice (some ⟨w2.heap.size, 0, none⟩) 0 0).ownBlock) : w4.ownsRow (w.heap.size + 2) 9 1 (.slice a n c) n xs := by
  have h1 := (ownsRow_setCell_below h (a := ⟨w.heap.size, 2, none⟩) (show w.heap.size < w.heap.size + 2 by omega) v).alloc o
  refine h1.kept hg ?_
  cases hq : (Value.slice a n c).ownBlock with
  | none => exact .inl rfl
  | some g =>
    right
    have := (h.lt g hq).2
    intro e
    simp [Value.ownBlock] at e
    omega
theorem scopy_end {w w4 : World} {cap first : Int} {va : Option Addr} {n vc : Nat} {qa qa' : Option Addr} {m qc qc' base : Nat} {xs ys : List Value} (h : SCopy w w4 cap first va n vc qa m qc) (hy : w4.ownsRow base 138 2 (.slice qa' m qc') m ys) (hx : w4.ownsRow (w.heap.size + 2) 9 1 (.slice va n vc) n xs) (hb : w.heap.size + 2 ≤ base) :
    OwnRing (((((w4.setCell ⟨w.heap.size, 3, none⟩ (.slice qa' m qc')).setCell ⟨w.heap.size + 1, 0, none⟩ (.int .i64 cap)).setCell ⟨w.heap.size + 1, 1, none⟩ (.int .i64 first)).setCell ⟨w.heap.size + 1, 2, none⟩ (.slice va n vc)).setCell ⟨w.heap.size + 1, 3, none⟩ (.slice qa' m qc')) w.heap.size va n vc qa' m qc' xs ys ∧
    Below w.heap.size w (((((w4.setCell ⟨w.heap.size, 3, none⟩ (.slice qa' m qc')).setCell ⟨w.heap.size + 1, 0, none⟩ (.int .i64 cap)).setCell ⟨w.heap.size + 1, 1, none⟩ (.int .i64 first)).setCell ⟨w.heap.size + 1, 2, none⟩ (.slice va n vc)).setCell ⟨w.heap.size + 1, 3, none⟩ (.slice qa' m qc')) := by
  have q0 : w.heap.size < w.heap.size + 2 := by omega
  have q1 : w.heap.size + 1 < w.heap.size + 2 := by omega
  have r0 : w.heap.size < base := by omega
  have r1 : w.heap.size + 1 < base := by omega
  have k1 : w.heap.size ≤ w.heap.size + 1 := by omega
  refine ⟨⟨?_, ?_⟩, ?_⟩
  · exact (ownsRow_setCell_below (ownsRow_setCell_below (ownsRow_setCell_below (ownsRow_setCell_below (ownsRow_setCell_below hx (a := ⟨w.heap.size, 3, none⟩) q0 _) (a := ⟨w.heap.size + 1, 0, none⟩) q1 _) (a := ⟨w.heap.size + 1, 1, none⟩) q1 _) (a := ⟨w.heap.size + 1, 2, none⟩) q1 _) (a := ⟨w.heap.size + 1, 3, none⟩) q1 _).mono (by omega)
  · exact (ownsRow_setCell_below (ownsRow_setCell_below (ownsRow_setCell_below (ownsRow_setCell_below (ownsRow_setCell_below hy (a := ⟨w.heap.size, 3, none⟩) r0 _) (a := ⟨w.heap.size + 1, 0, none⟩) r1 _) (a := ⟨w.heap.size + 1, 1, none⟩) r1 _) (a := ⟨w.heap.size + 1, 2, none⟩) r1 _) (a := ⟨w.heap.size + 1, 3, none⟩) r1 _).mono (by omega)
  · exact ((((h.below.setCell (p := ⟨w.heap.size, 3, none⟩) (Nat.le_refl _) _).setCell (p := ⟨w.heap.size + 1, 0, none⟩) k1 _).setCell (p := ⟨w.heap.size + 1, 1, none⟩) k1 _).setCell (p := ⟨w.heap.size + 1, 2, none⟩) k1 _).setCell (p := ⟨w.heap.size + 1, 3, none⟩) k1 _
set_option maxRecDepth 100000 in
set_option maxHeartbeats 4000000 in
theorem spec_copy (recs : List ByteArray) (curs : List (Int × Int)) (w : World) (hr : StrIn w ra rl rc recs) (hc : CurIn w ca cl cc curs) (hrl : rl ≤ 1048577) (hcl : cl ≤ 1048577) :
    Calls Tryz.prog 86 #[ringV cap first ra rl rc ca cl cc] w fun e w' => ∃ a q c p, e = .returned (ringV cap first a rl q c cl p) ∧ OwnRing w' w.heap.size a rl q c cl p (recs.map Value.string) (curCells curs) ∧ Below w.heap.size w w' := by
  obtain ⟨i0, hi0, hz0, hz1, hz2⟩ := info_parts info_str
  obtain ⟨j0, hj0, hy0, hy1, hy2⟩ := info_parts info_cur
  have HR : Hid (StrIn w ra rl rc recs) := hr
  have HC : Hid (CurIn w ca cl cc curs) := hc
  have HL : Hid (recs.length = rl) := hr.strs.1
  have HLC : Hid (curs.length = cl) := hc.curs.1
  clear hr hc
  go_enter Tryz.func86, Tryz.ntmps86
  have HS0 : Hid (SCopy w (((w.alloc (ringObj cap first ra rl rc ca cl cc)).alloc (ringObj 0 0 none 0 0 none 0 0)).alloc (.cells #[] 9)) cap first ra rl rc ca cl cc) := (scopy_start w cap first ra rl rc ca cl cc).alloc _
  go_wp2_with (first
    | (at_builtin; refine wpList_append_own_any (by rfl) _ _ 87 (by rfl) (w.heap.size + 2) 9 i0 _ 1 16 Tryz.underlying87 hi0 hz0 hz1 hz2 (by rfl) (by omega) (.slice (some ⟨w.heap.size + 1 + 1, 0, none⟩) 0 0) 0 [] (by rfl) (scopy_row _ _ _ _) ra rl rc (recs.map Value.string) (by rfl) (by rw [List.length_map, HL.out]; omega) HR.out.nil (strs_news (strs_below HR.out.strs HS0.out.below)) (strCells_one _) (by unfold maxLen; omega) (by omega) (by simp) ?_; intro v1 w2 ho2 hg2; simp only [Nat.zero_add, List.nil_append] at ho2; obtain ⟨a1, c1, rfl⟩ := own_strV ho2; have hs2 := HS0.out.grown hg2 (fun j e => by simp [Value.ownBlock] at e; omega); have g0 := fun o => cell_of_block0 hs2.b0 o; have f0 := fun o => unfrozen_of_block0 hs2.b0 o; have HS3 : Hid (SCopy w ((w2.setCell ⟨w.heap.size, 2, none⟩ (.slice a1 rl c1)).alloc (.cells #[] 138)) cap first a1 rl c1 ca cl cc) := (hs2.set2 a1 rl c1).alloc _; have HO2 : Hid (w2.ownsRow (w.heap.size + 2) 9 1 (.slice a1 rl c1) rl (recs.map Value.string)) := ho2; have hz2' := hs2.size; have hz3' : w.heap.size < w2.heap.size := (by omega); clear hs2 hg2 ho2)
    | (at_builtin; refine wpList_append_own_any (by rfl) _ _ 88 (by rfl) w2.heap.size 138 j0 _ 2 16 Tryz.underlying88 hj0 hy0 hy1 hy2 (by rfl) (by omega) (.slice (some ⟨w2.heap.size, 0, none⟩) 0 0) 0 [] (by rfl) (scopy_row2 _ _ _ _) ca cl cc (curCells curs) (by rfl) (by rw [curCells_length, HLC.out]) HC.out.nil (curs_news (curs_below HC.out.curs HS3.out.below)) (curCells_one _) (by unfold maxLen; omega) (by omega) (by simp [World.setCell]) ?_; intro v3 w4 ho4 hg4; simp only [Nat.zero_add, List.nil_append] at ho4; obtain ⟨a3, c3, rfl⟩ := own_curV ho4; have hs4 := HS3.out.grown hg4 (fun j e => by simp [Value.ownBlock] at e; omega); have g1 := fun o => cell_of_block0 hs4.b0 o; have f1 := fun o => unfrozen_of_block0 hs4.b0 o; have g2 := fun o => cell_of_block0 hs4.b1 o; have f2 := fun o => unfrozen_of_block0 hs4.b1 o; have HF : Hid _ := scopy_end hs4 ho4 (scopy_keep HO2.out hg4) hz2'; clear hs4 hg4 ho4))
  obtain ⟨hx, hy⟩ := HF.out
  exact bodyPost_ret (v := ringV cap first a1 rl c1 a3 cl c3) (by simp [results, Tryz.results86, go_sem, g2]) rfl ⟨a1, c1, a3, c3, rfl, hx, hy⟩
end Go.Proofs.YtdepaeajfldfbaaGreatDoor
/- The specification's rings: a group's cursor, and what has passed. -/
namespace Go.Proofs.YtdepaeajfldfbaaGreatDoor
open Go.RowKit
variable {cap first : Int} {ra ca : Option Addr} {rl rc cl cc : Nat}

/-- The place of a group's cursor, or -1. -/
def curIx (g : Int) (l : List (Int × Int)) : Int := if findB g l = true then (findK g l : Int) else -1
def rises (l : List (Int × Int)) : Prop := ∀ j, ∀ (h : j + 1 < l.length), l[j].1 < l[j + 1].1
theorem rises_lt {l : List (Int × Int)} (h : rises l) : ∀ i j, i < j → ∀ (hj : j < l.length), ∀ (hi : i < l.length), l[i].1 < l[j].1 := by
  intro i j hij
  induction j with
  | zero => omega
  | succ n ih =>
    intro hj hi
    by_cases e : i = n
    · subst e; exact h i hj
    · have h1 := ih (by omega) (by omega) hi
      have h2 := h n hj
      omega
def notTo (g : Int) (l : List (Int × Int)) (k : Nat) : Prop := ∀ j, j < k → ∀ (h : j < l.length), l[j].1 ≠ g
theorem ix_at {g : Int} {l : List (Int × Int)} {k : Nat} (hr : rises l) (hk : k < l.length) (hg : l[k].1 = g) : curIx g l = (k : Int) := by
  have hlow : lowTo g l k := fun j hj h => by
    have := rises_lt hr j k hj hk h
    omega
  have hf := find_at hlow hk (by omega)
  unfold curIx
  rw [hf.2, hf.1, if_pos (by simp [hg])]
theorem ix_none {g : Int} {l : List (Int × Int)} {k : Nat} (hk : l.length ≤ k) (h : notTo g l k) : curIx g l = -1 := by
  unfold curIx
  rw [if_neg]
  intro hb
  have hlt := find_lt hb
  unfold findB at hb
  rw [List.getElem?_eq_getElem hlt] at hb
  exact h _ (by omega) hlt (by simpa using hb)
theorem strs_drop {w : World} {b off n P : Nat} {l : List ByteArray} (h : Strs w (some ⟨b, off, none⟩) n l) (_hP : P ≤ n) : Strs w (some ⟨b, off + P, none⟩) (n - P) (l.drop P) := by
  have hl : l.length = n := h.1
  refine ⟨by simp; omega, fun k hk => ?_⟩
  have hk' : P + k < l.length := by simp at hk; omega
  obtain ⟨b', off', e, hc⟩ := h.2 (P + k) hk'
  cases e
  refine ⟨b, off + P, rfl, ?_⟩
  rw [show off + P + k = off + (P + k) by omega, hc]
  simp
theorem trim_end {w w4 : World} {cap first f : Int} {va va' : Option Addr} {n vc n' vc' : Nat} {qa : Option Addr} {m qc base : Nat} {xs : List Value} (h : SCopy w w4 cap first va n vc qa m qc) (hx : w4.ownsRow base 9 1 (.slice va' n' vc') n' xs) (hb : w.heap.size + 2 ≤ base) :
    ((((((w4.setCell ⟨w.heap.size, 2, none⟩ (.slice va' n' vc')).setCell ⟨w.heap.size, 1, none⟩ (.int .i64 f)).setCell ⟨w.heap.size + 1, 0, none⟩ (.int .i64 cap)).setCell ⟨w.heap.size + 1, 1, none⟩ (.int .i64 f)).setCell ⟨w.heap.size + 1, 2, none⟩ (.slice va' n' vc')).setCell ⟨w.heap.size + 1, 3, none⟩ (.slice qa m qc)).ownsRow w.heap.size 9 1 (.slice va' n' vc') n' xs ∧
    Below w.heap.size w ((((((w4.setCell ⟨w.heap.size, 2, none⟩ (.slice va' n' vc')).setCell ⟨w.heap.size, 1, none⟩ (.int .i64 f)).setCell ⟨w.heap.size + 1, 0, none⟩ (.int .i64 cap)).setCell ⟨w.heap.size + 1, 1, none⟩ (.int .i64 f)).setCell ⟨w.heap.size + 1, 2, none⟩ (.slice va' n' vc')).setCell ⟨w.heap.size + 1, 3, none⟩ (.slice qa m qc)) := by
  have r0 : w.heap.size < base := by omega
  have r1 : w.heap.size + 1 < base := by omega
  have k1 : w.heap.size ≤ w.heap.size + 1 := by omega
  refine ⟨?_, ?_⟩
  · exact (ownsRow_setCell_below (ownsRow_setCell_below (ownsRow_setCell_below (ownsRow_setCell_below (ownsRow_setCell_below (ownsRow_setCell_below hx (a := ⟨w.heap.size, 2, none⟩) r0 _) (a := ⟨w.heap.size, 1, none⟩) r0 _) (a := ⟨w.heap.size + 1, 0, none⟩) r1 _) (a := ⟨w.heap.size + 1, 1, none⟩) r1 _) (a := ⟨w.heap.size + 1, 2, none⟩) r1 _) (a := ⟨w.heap.size + 1, 3, none⟩) r1 _).mono (by omega)
  · exact (((((h.below.setCell (p := ⟨w.heap.size, 2, none⟩) (Nat.le_refl _) _).setCell (p := ⟨w.heap.size, 1, none⟩) (Nat.le_refl _) _).setCell (p := ⟨w.heap.size + 1, 0, none⟩) k1 _).setCell (p := ⟨w.heap.size + 1, 1, none⟩) k1 _).setCell (p := ⟨w.heap.size + 1, 2, none⟩) k1 _).setCell (p := ⟨w.heap.size + 1, 3, none⟩) k1 _
theorem trim_row (w1 : World) (t : TypeId) (size : Nat := 1) : (w1.alloc (.cells #[] t)).ownsRow w1.heap.size t size (.slice (some ⟨w1.heap.size, 0, none⟩) 0 0) 0 [] := by
  have h := World.ownsRow_lit (base := w1.heap.size) (e := t) (size := size) w1 #[] 0 (Nat.le_refl _) (by unfold maxLen; omega) (by simp)
  simpa using h
end Go.Proofs.YtdepaeajfldfbaaGreatDoor
/- Leave of the specification. -/
namespace Go.Proofs.YtdepaeajfldfbaaGreatDoor
open Go.RowKit
variable {cap first : Int} {ra ca : Option Addr} {rl rc cl cc : Nat}

theorem curs_drop {w : World} {b off n P : Nat} {l : List (Int × Int)} (h : Curs w (some ⟨b, off, none⟩) n l) (_hP : P ≤ n) : Curs w (some ⟨b, off + P * 2, none⟩) (n - P) (l.drop P) := by
  have hl : l.length = n := h.1
  refine ⟨by simp; omega, fun k hk => ?_⟩
  have hk' : P + k < l.length := by simp at hk; omega
  obtain ⟨b', off', e, hc, hd⟩ := h.2 (P + k) hk'
  cases e
  refine ⟨b, off + P * 2, rfl, ?_, ?_⟩
  · rw [show off + P * 2 + k * 2 = off + (P + k) * 2 by omega, hc]; simp
  · rw [show off + P * 2 + k * 2 + 1 = off + (P + k) * 2 + 1 by omega, hd]; simp
theorem curs_take {w : World} {b off n P : Nat} {l : List (Int × Int)} (h : Curs w (some ⟨b, off, none⟩) n l) (hP : P ≤ n) : Curs w (some ⟨b, off, none⟩) P (l.take P) := by
  have hl : l.length = n := h.1
  refine ⟨by simp; omega, fun k hk => ?_⟩
  have hk' : k < P := by simp at hk; omega
  obtain ⟨b', off', e, hc, hd⟩ := h.2 k (by omega)
  cases e
  exact ⟨b, off, rfl, by rw [hc]; simp, by rw [hd]; simp⟩
theorem leave_keep4 {w4 w6 : World} {o o' : Obj} {row : Option Nat} (hg : ((w4.alloc o).alloc o').grownBy w6 row) (hr : ∀ j, row = some j → w4.heap.size + 1 ≤ j) : Below w4.heap.size w4 w6 :=
  (((Below.refl _ _).alloc (Nat.le_refl _) _).alloc (by simp) _).grown hg (by simp; omega) (fun j e => by have := hr j e; omega)
theorem leave_keep2 {w w4 w6 w7 u : World} {o : Obj} {v : Value} {n : Nat} {xs : List Value} (h : w6.heap[w4.heap.size]? = some o ∧ Below u.heap.size u w6 ∧ w4.heap.size + 1 ≤ w6.heap.size ∧ Below w.heap.size w w6) (ho : w6.ownsRow (w4.heap.size + 1) 138 2 v n xs) (hg : w6.grownBy w7 v.ownBlock) (hu : u.heap.size ≤ w4.heap.size) (hw : w.heap.size ≤ w4.heap.size) :
    w7.heap[w4.heap.size]? = some o ∧ Below u.heap.size u w7 ∧ w4.heap.size + 1 ≤ w7.heap.size ∧ Below w.heap.size w w7 := by
  have hr : ∀ j, v.ownBlock = some j → w4.heap.size + 1 ≤ j := fun j e => (ho.lt j e).1
  have hz := hg.size
  exact ⟨(hg.block _ (by omega) (fun e => by have := hr _ e.symm; omega)).trans h.1, h.2.1.grown hg (by omega) (fun j e => by have := hr j e; omega), by omega, h.2.2.2.grown hg (by omega) (fun j e => by have := hr j e; omega)⟩
theorem leave_row {w7 : World} {base K m n : Nat} {v : Value} {xs ys : List Value} {cs : List (Int × Int)} (h : w7.ownsRow base 138 2 v (K + m) (xs ++ ys)) (hc : xs ++ ys = curCells cs) (hn : n = K + m) : w7.ownsRow base 138 2 v n (curCells cs) := by
  rw [← hc, hn]
  exact h
theorem leave_store {w w4 w7 u : World} {cap first : Int} {a4 c4 : Option Addr} {rl q4 cl p4 n : Nat} {v : Value} {ys : List Value} (h : w7.heap[w4.heap.size]? = some (ringObj cap first a4 rl q4 c4 cl p4) ∧ Below u.heap.size u w7 ∧ w4.heap.size + 1 ≤ w7.heap.size ∧ Below w.heap.size w w7) (ho : w7.ownsRow (w4.heap.size + 1) 138 2 v n ys) (x : Value) (h4 : Below w4.heap.size w4 w7) (hu : u.heap.size ≤ w4.heap.size) (hw : w.heap.size ≤ w4.heap.size) :
    Below w4.heap.size w4 (w7.setCell ⟨w4.heap.size, 3, none⟩ x) ∧ Below u.heap.size u (w7.setCell ⟨w4.heap.size, 3, none⟩ x) ∧ (w7.setCell ⟨w4.heap.size, 3, none⟩ x).ownsRow (w4.heap.size + 1) 138 2 v n ys ∧ Below w.heap.size w (w7.setCell ⟨w4.heap.size, 3, none⟩ x) ∧ w4.heap.size + 1 ≤ (w7.setCell ⟨w4.heap.size, 3, none⟩ x).heap.size :=
  ⟨h4.setCell (p := ⟨w4.heap.size, 3, none⟩) (Nat.le_refl _) _, h.2.1.setCell (p := ⟨w4.heap.size, 3, none⟩) hu _, ownsRow_setCell_below ho (a := ⟨w4.heap.size, 3, none⟩) (Nat.lt_succ_self _) _, h.2.2.2.setCell (p := ⟨w4.heap.size, 3, none⟩) hw _, by simpa [World.setCell] using h.2.2.1⟩
end Go.Proofs.YtdepaeajfldfbaaGreatDoor
/- RingAt of the specification. -/
namespace Go.Proofs.YtdepaeajfldfbaaGreatDoor
open Go.RowKit
variable {cap first : Int} {ra ca : Option Addr} {rl rc cl cc : Nat}

/-- The record that is read of place K. -/
def recAt (recs : List ByteArray) (K : Nat) : Int × Int × ByteArray × Nat := readRes (recs.getD K ⟨#[]⟩)
def atR (cap first : Int) (recs : List ByteArray) (curs : List (Int × Int)) (at' : Int) : RO :=
  if ringRightB cap first recs curs = false then RO.ill 1 else if ¬ (first ≤ at' ∧ at' ≤ first + (recs.length : Int) - 1) then RO.ill 8
  else ⟨cap, first, recs, curs, (recAt recs (at' - first).toNat).1, (recAt recs (at' - first).toNat).2.1, (recAt recs (at' - first).toNat).2.2.1, 0⟩
set_option maxRecDepth 100000 in
set_option maxHeartbeats 1000000 in
theorem spec_lat (recs : List ByteArray) (K : Nat) (w : World) (hr : StrIn w ra rl rc recs) (hs : ∀ s ∈ recs, s.size ≤ maxLen) (hK : K < rl) (hrl : rl ≤ 1048576) :
    Calls Tryz.prog 72 #[ringV cap first ra rl rc ca cl cc, .int .i64 (first + (K : Int))] w fun e w' => e = .returned (recV (recAt recs K).1 (recAt recs K).2.1 (recAt recs K).2.2.1) ∧ Below w.heap.size w w' := by
  have hKl : K < recs.length := by rw [hr.strs.1]; exact hK
  have hB0 : Below w.heap.size w ((w.alloc (ringObj cap first ra rl rc ca cl cc)).alloc (.cells #[.int .i64 0, .int .i64 0, .string ⟨#[]⟩] 110)) := ((Below.refl _ _).alloc (Nat.le_refl _) _).alloc (by simp) _
  obtain ⟨b, off, e1, hc⟩ := (strs_below hr.strs hB0).2 K hKl
  have hg : recs.getD K ⟨#[]⟩ = recs[K] := by rw [List.getD_eq_getElem?_getD, List.getElem?_eq_getElem hKl]; rfl
  have HRD : Hid _ := fun w => spec_recRead recs[K] w (hs _ (List.getElem_mem hKl))
  have hra : recAt recs K = readRes recs[K] := by unfold recAt; rw [hg]
  rw [hra]
  clear hg hra
  obtain ⟨V, hV⟩ : ∃ V, recs[K] = V := ⟨_, rfl⟩
  rw [hV] at hc HRD ⊢
  clear hV hKl hs hr
  obtain ⟨R, hR⟩ : ∃ R, readRes V = R := ⟨_, rfl⟩
  rw [hR] at HRD ⊢
  clear hR
  obtain ⟨r1, r2, r3, r4⟩ := R
  have HRE : Hid (∀ w, Calls Tryz.prog 106 #[.string V] w fun e w' => e = .returned (.agg #[.int .i64 r1, .int .i64 r2, .string r3, .int .i64 (r4 : Int)]) ∧ Below w.heap.size w w') := HRD.out
  clear HRD
  subst e1
  have hsub : first + (K : Int) - first = (K : Int) := by omega
  have hfd := field_rec r1 r2 r3 (r4 : Int)
  have hKi : (K : Int) < (rl : Int) := by omega
  have HB0 : Hid _ := hB0
  clear hB0
  go_enter Tryz.func72, Tryz.ntmps72
  go_wp2_with fail
  refine (HRE.out _).mono ?_
  rintro e w1 ⟨rfl, hb1⟩
  have hc1 := fun o => hb1.cell (p := ⟨w.heap.size + 1, o, none⟩) (by simp)
  have hf1 := fun o => hb1.frozen (p := ⟨w.heap.size + 1, o, none⟩) (by simp)
  have HB1 : Hid (Below w.heap.size w w1) := below_tr HB0.out hb1
  clear hb1
  go_wp2
  exact bodyPost_ret (v := recV r1 r2 r3) (by simp [results, Tryz.results72, go_sem, hc1]) rfl ⟨rfl, ((HB1.out.setCell (p := ⟨w.heap.size + 1, 0, none⟩) (Nat.le_succ _) _).setCell (p := ⟨w.heap.size + 1, 1, none⟩) (Nat.le_succ _) _).setCell (p := ⟨w.heap.size + 1, 2, none⟩) (Nat.le_succ _) _⟩
theorem at_ans {w w6 : World} {cap first : Int} {base rl cl : Nat} {recs : List ByteArray} {curs : List (Int × Int)} {a : Option Addr} {q : Nat} {c : Option Addr} {p : Nat} {k t : Int} {d : ByteArray} (ho : OwnRing w6 base a rl q c cl p (recs.map Value.string) (curCells curs)) (hB : Below w.heap.size w w6) (hr : recs.length = rl) (hl : curs.length = cl) (hz : w.heap.size + 1 < base) (v0 v1 v2 v3 v4 v5 v6 v7 : Value) :
    Answers w (set8 w6 (w.heap.size + 1) v0 v1 v2 v3 v4 v5 v6 v7) (.returned (ringOutV cap first a rl q c cl p k t d 0)) (RO.mk cap first recs curs k t d 0) := by
  subst hr hl
  exact ⟨a, q, c, p, rfl, ⟨(own_set8 ho.1 (w.heap.size + 1) hz v0 v1 v2 v3 v4 v5 v6 v7).mono (by omega), (own_set8 ho.2 (w.heap.size + 1) hz v0 v1 v2 v3 v4 v5 v6 v7).mono (by omega)⟩, below_set8 hB (w.heap.size + 1) (by omega) v0 v1 v2 v3 v4 v5 v6 v7⟩
end Go.Proofs.YtdepaeajfldfbaaGreatDoor
