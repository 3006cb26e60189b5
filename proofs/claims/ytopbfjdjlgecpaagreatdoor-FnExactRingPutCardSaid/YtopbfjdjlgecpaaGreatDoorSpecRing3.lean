import Derived.Test.YtopbfjdjlgecpaaGreatDoorRingRes
import Derived.Test.YtopbfjdjlgecpaaGreatDoorRingNew
import Derived.Test.YtopbfjdjlgecpaaGreatDoorRingLeave
/- The specification's rings: copies, cursors. -/
namespace Go.Proofs.YtopbfjdjlgecpaaGreatDoor
open Go.RowKit
variable {cap first : Int} {ra ca : Option Addr} {rl rc cl cc : Nat}

/-- While the specification copies a ring: its box and the answer's. -/
structure SCopy (w wr : World) (cap first : Int) (va : Option Addr) (n vc : Nat) (qa : Option Addr) (m qc : Nat) : Prop where
  b0 : wr.heap[w.heap.size]? = some (ringObj cap first va n vc qa m qc)
  b1 : wr.heap[w.heap.size + 1]? = some (ringObj 0 0 none 0 0 none 0 0)
  below : Below w.heap.size w wr
  size : w.heap.size + 2 ≤ wr.heap.size
theorem SCopy.grown {w wr wx : World} {cap first : Int} {va : Option Addr} {n vc : Nat} {qa : Option Addr} {m qc : Nat} {row : Option Nat} (h : SCopy w wr cap first va n vc qa m qc) (hg : wr.grownBy wx row) (hr : ∀ j, row = some j → w.heap.size + 2 ≤ j) : SCopy w wx cap first va n vc qa m qc := by
  have hz := h.size
  exact ⟨(hg.block _ (by omega) (fun e => by have := hr _ e.symm; omega)).trans h.b0, (hg.block _ (by omega) (fun e => by have := hr _ e.symm; omega)).trans h.b1, h.below.grown hg (by omega) (fun j e => by have := hr j e; omega), Nat.le_trans h.size hg.size⟩
theorem SCopy.set2 {w wr : World} {cap first : Int} {va : Option Addr} {n vc : Nat} {qa : Option Addr} {m qc : Nat} (h : SCopy w wr cap first va n vc qa m qc) (va' : Option Addr) (n' vc' : Nat) : SCopy w (wr.setCell ⟨w.heap.size, 2, none⟩ (.slice va' n' vc')) cap first va' n' vc' qa m qc :=
  ⟨heap_setCell_same wr w.heap.size 2 _ _ _ h.b0, (Below.heap_setCell wr ⟨w.heap.size, 2, none⟩ _ (w.heap.size + 1) (show w.heap.size + 1 ≠ w.heap.size by omega)).trans h.b1, h.below.setCell (p := ⟨w.heap.size, 2, none⟩) (Nat.le_refl _) _, by simpa [World.setCell] using h.size⟩
theorem SCopy.set3 {w wr : World} {cap first : Int} {va : Option Addr} {n vc : Nat} {qa : Option Addr} {m qc : Nat} (h : SCopy w wr cap first va n vc qa m qc) (va' : Option Addr) (n' vc' : Nat) : SCopy w (wr.setCell ⟨w.heap.size, 3, none⟩ (.slice va' n' vc')) cap first va n vc va' n' vc' :=
  ⟨heap_setCell_same wr w.heap.size 3 _ _ _ h.b0, (Below.heap_setCell wr ⟨w.heap.size, 3, none⟩ _ (w.heap.size + 1) (show w.heap.size + 1 ≠ w.heap.size by omega)).trans h.b1, h.below.setCell (p := ⟨w.heap.size, 3, none⟩) (Nat.le_refl _) _, by simpa [World.setCell] using h.size⟩
theorem SCopy.set1 {w wr : World} {cap first : Int} {va : Option Addr} {n vc : Nat} {qa : Option Addr} {m qc : Nat} (h : SCopy w wr cap first va n vc qa m qc) (f : Int) : SCopy w (wr.setCell ⟨w.heap.size, 1, none⟩ (.int .i64 f)) cap f va n vc qa m qc :=
  ⟨heap_setCell_same wr w.heap.size 1 _ _ _ h.b0, (Below.heap_setCell wr ⟨w.heap.size, 1, none⟩ _ (w.heap.size + 1) (show w.heap.size + 1 ≠ w.heap.size by omega)).trans h.b1, h.below.setCell (p := ⟨w.heap.size, 1, none⟩) (Nat.le_refl _) _, by simpa [World.setCell] using h.size⟩
theorem scopy_start (w : World) (cap first : Int) (ra : Option Addr) (rl rc : Nat) (ca : Option Addr) (cl cc : Nat) : SCopy w ((w.alloc (ringObj cap first ra rl rc ca cl cc)).alloc (ringObj 0 0 none 0 0 none 0 0)) cap first ra rl rc ca cl cc := by
  refine ⟨(Below.heap_alloc _ _ _ (by simp)).trans (heap_alloc_new _ _), ?_, ((Below.refl _ _).alloc (Nat.le_refl _) _).alloc (by simp) _, by simp⟩
  have h := heap_alloc_new (w.alloc (ringObj cap first ra rl rc ca cl cc)) (ringObj 0 0 none 0 0 none 0 0)
  rwa [World.size_alloc] at h
theorem SCopy.alloc {w wr : World} {cap first : Int} {va : Option Addr} {n vc : Nat} {qa : Option Addr} {m qc : Nat} (h : SCopy w wr cap first va n vc qa m qc) (o : Obj) : SCopy w (wr.alloc o) cap first va n vc qa m qc := h.grown (World.grownBy_alloc wr o none) (fun j e => by cases e)
theorem scopy_row (w : World) (o o' : Obj) (t : TypeId) (size : Nat := 1) : (((w.alloc o).alloc o').alloc (.cells #[] t)).ownsRow (w.heap.size + 2) t size (.slice (some ⟨w.heap.size + 1 + 1, 0, none⟩) 0 0) 0 [] := by
  have h := World.ownsRow_lit (base := w.heap.size + 2) (e := t) (size := size) ((w.alloc o).alloc o') #[] 0 (by simp) (by unfold maxLen; omega) (by simp)
  simpa using h
theorem scopy_row2 (w : World) (p : Addr) (v : Value) (t : TypeId) (size : Nat := 2) : ((w.setCell p v).alloc (.cells #[] t)).ownsRow w.heap.size t size (.slice (some ⟨w.heap.size, 0, none⟩) 0 0) 0 [] := by
  have h := World.ownsRow_lit (base := w.heap.size) (e := t) (size := size) (w.setCell p v) #[] 0 (by simp [World.setCell]) (by unfold maxLen; omega) (by simp)
  simpa [World.setCell] using h
theorem scopy_keep {w w2 w4 : World} {n c : Nat} {a : Option Addr} {xs : List Value} {o : Obj} {v : Value} (h : w2.ownsRow (w.heap.size + 2) 9 1 (.slice a n c) n xs) (hg : ((w2.setCell ⟨w.heap.size, 2, none⟩ v).alloc o).grownBy w4 (Value.slice (some ⟨w2.heap.size, 0, none⟩) 0 0).ownBlock) : w4.ownsRow (w.heap.size + 2) 9 1 (.slice a n c) n xs := by
  have h1 := (ownsRow_setCell_below h (a := ⟨w.heap.size, 2, none⟩) (show w.heap.size < w.heap.size + 2 by omega) v).alloc o
  refine h1.kept hg ?_
  cases hq : (Value.slice a n c).ownBlock with
  | none => exact .inl rfl
  | some g =>
    right
    have := (h.lt g hq).2
    intro e
    simp [Value.ownBlock] at e
    omega
theorem scopy_end {w w4 : World} {cap first : Int} {va : Option Addr} {n vc : Nat} {qa qa' : Option Addr} {m qc qc' base : Nat} {xs ys : List Value} (h : SCopy w w4 cap first va n vc qa m qc) (hy : w4.ownsRow base 47 2 (.slice qa' m qc') m ys) (hx : w4.ownsRow (w.heap.size + 2) 9 1 (.slice va n vc) n xs) (hb : w.heap.size + 2 ≤ base) :
    OwnRing (((((w4.setCell ⟨w.heap.size, 3, none⟩ (.slice qa' m qc')).setCell ⟨w.heap.size + 1, 0, none⟩ (.int .i64 cap)).setCell ⟨w.heap.size + 1, 1, none⟩ (.int .i64 first)).setCell ⟨w.heap.size + 1, 2, none⟩ (.slice va n vc)).setCell ⟨w.heap.size + 1, 3, none⟩ (.slice qa' m qc')) w.heap.size va n vc qa' m qc' xs ys ∧
    Below w.heap.size w (((((w4.setCell ⟨w.heap.size, 3, none⟩ (.slice qa' m qc')).setCell ⟨w.heap.size + 1, 0, none⟩ (.int .i64 cap)).setCell ⟨w.heap.size + 1, 1, none⟩ (.int .i64 first)).setCell ⟨w.heap.size + 1, 2, none⟩ (.slice va n vc)).setCell ⟨w.heap.size + 1, 3, none⟩ (.slice qa' m qc')) := by
  have q0 : w.heap.size < w.heap.size + 2 := by omega
  have q1 : w.heap.size + 1 < w.heap.size + 2 := by omega
  have r0 : w.heap.size < base := by omega
  have r1 : w.heap.size + 1 < base := by omega
  have k1 : w.heap.size ≤ w.heap.size + 1 := by omega
  refine ⟨⟨?_, ?_⟩, ?_⟩
  · exact (ownsRow_setCell_below (ownsRow_setCell_below (ownsRow_setCell_below (ownsRow_setCell_below (ownsRow_setCell_below hx (a := ⟨w.heap.size, 3, none⟩) q0 _) (a := ⟨w.heap.size + 1, 0, none⟩) q1 _) (a := ⟨w.heap.size + 1, 1, none⟩) q1 _) (a := ⟨w.heap.size + 1, 2, none⟩) q1 _) (a := ⟨w.heap.size + 1, 3, none⟩) q1 _).mono (by omega)
  · exact (ownsRow_setCell_below (ownsRow_setCell_below (ownsRow_setCell_below (ownsRow_setCell_below (ownsRow_setCell_below hy (a := ⟨w.heap.size, 3, none⟩) r0 _) (a := ⟨w.heap.size + 1, 0, none⟩) r1 _) (a := ⟨w.heap.size + 1, 1, none⟩) r1 _) (a := ⟨w.heap.size + 1, 2, none⟩) r1 _) (a := ⟨w.heap.size + 1, 3, none⟩) r1 _).mono (by omega)
  · exact ((((h.below.setCell (p := ⟨w.heap.size, 3, none⟩) (Nat.le_refl _) _).setCell (p := ⟨w.heap.size + 1, 0, none⟩) k1 _).setCell (p := ⟨w.heap.size + 1, 1, none⟩) k1 _).setCell (p := ⟨w.heap.size + 1, 2, none⟩) k1 _).setCell (p := ⟨w.heap.size + 1, 3, none⟩) k1 _
set_option maxRecDepth 100000 in
set_option maxHeartbeats 4000000 in
theorem spec_copy (recs : List ByteArray) (curs : List (Int × Int)) (w : World) (hr : StrIn w ra rl rc recs) (hc : CurIn w ca cl cc curs) (hrl : rl ≤ 1048577) (hcl : cl ≤ 1048577) :
    Calls Tryz.prog 64 #[ringV cap first ra rl rc ca cl cc] w fun e w' => ∃ a q c p, e = .returned (ringV cap first a rl q c cl p) ∧ OwnRing w' w.heap.size a rl q c cl p (recs.map Value.string) (curCells curs) ∧ Below w.heap.size w w' := by
  obtain ⟨i0, hi0, hz0, hz1, hz2⟩ := info_parts info_str
  obtain ⟨j0, hj0, hy0, hy1, hy2⟩ := info_parts info_cur
  have HR : Hid (StrIn w ra rl rc recs) := hr
  have HC : Hid (CurIn w ca cl cc curs) := hc
  have HL : Hid (recs.length = rl) := hr.strs.1
  have HLC : Hid (curs.length = cl) := hc.curs.1
  clear hr hc
  go_enter Tryz.func64, Tryz.ntmps64
  have HS0 : Hid (SCopy w (((w.alloc (ringObj cap first ra rl rc ca cl cc)).alloc (ringObj 0 0 none 0 0 none 0 0)).alloc (.cells #[] 9)) cap first ra rl rc ca cl cc) := (scopy_start w cap first ra rl rc ca cl cc).alloc _
  go_wp2_with (first
    | (at_builtin; refine wpList_append_own_any (by rfl) _ _ 23 (by rfl) (w.heap.size + 2) 9 i0 _ 1 16 Tryz.underlying23 hi0 hz0 hz1 hz2 (by rfl) (by omega) (.slice (some ⟨w.heap.size + 1 + 1, 0, none⟩) 0 0) 0 [] (by rfl) (scopy_row _ _ _ _) ra rl rc (recs.map Value.string) (by rfl) (by rw [List.length_map, HL.out]; omega) HR.out.nil (strs_news (strs_below HR.out.strs HS0.out.below)) (strCells_one _) (by unfold maxLen; omega) (by omega) (by simp) ?_; intro v1 w2 ho2 hg2; simp only [Nat.zero_add, List.nil_append] at ho2; obtain ⟨a1, c1, rfl⟩ := own_strV ho2; have hs2 := HS0.out.grown hg2 (fun j e => by simp [Value.ownBlock] at e; omega); have g0 := fun o => cell_of_block0 hs2.b0 o; have f0 := fun o => unfrozen_of_block0 hs2.b0 o; have HS3 : Hid (SCopy w ((w2.setCell ⟨w.heap.size, 2, none⟩ (.slice a1 rl c1)).alloc (.cells #[] 47)) cap first a1 rl c1 ca cl cc) := (hs2.set2 a1 rl c1).alloc _; have HO2 : Hid (w2.ownsRow (w.heap.size + 2) 9 1 (.slice a1 rl c1) rl (recs.map Value.string)) := ho2; have hz2' := hs2.size; have hz3' : w.heap.size < w2.heap.size := (by omega); clear hs2 hg2 ho2)
    | (at_builtin; refine wpList_append_own_any (by rfl) _ _ 24 (by rfl) w2.heap.size 47 j0 _ 2 16 Tryz.underlying24 hj0 hy0 hy1 hy2 (by rfl) (by omega) (.slice (some ⟨w2.heap.size, 0, none⟩) 0 0) 0 [] (by rfl) (scopy_row2 _ _ _ _) ca cl cc (curCells curs) (by rfl) (by rw [curCells_length, HLC.out]) HC.out.nil (curs_news (curs_below HC.out.curs HS3.out.below)) (curCells_one _) (by unfold maxLen; omega) (by omega) (by simp [World.setCell]) ?_; intro v3 w4 ho4 hg4; simp only [Nat.zero_add, List.nil_append] at ho4; obtain ⟨a3, c3, rfl⟩ := own_curV ho4; have hs4 := HS3.out.grown hg4 (fun j e => by simp [Value.ownBlock] at e; omega); have g1 := fun o => cell_of_block0 hs4.b0 o; have f1 := fun o => unfrozen_of_block0 hs4.b0 o; have g2 := fun o => cell_of_block0 hs4.b1 o; have f2 := fun o => unfrozen_of_block0 hs4.b1 o; have HF : Hid _ := scopy_end hs4 ho4 (scopy_keep HO2.out hg4) hz2'; clear hs4 hg4 ho4))
  obtain ⟨hx, hy⟩ := HF.out
  exact bodyPost_ret (v := ringV cap first a1 rl c1 a3 cl c3) (by simp [results, Tryz.results64, go_sem, g2]) rfl ⟨a1, c1, a3, c3, rfl, hx, hy⟩
end Go.Proofs.YtopbfjdjlgecpaaGreatDoor
/- The specification's rings: a group's cursor, and what has passed. -/
namespace Go.Proofs.YtopbfjdjlgecpaaGreatDoor
open Go.RowKit
variable {cap first : Int} {ra ca : Option Addr} {rl rc cl cc : Nat}

/-- The place of a group's cursor, or -1. -/
def curIx (g : Int) (l : List (Int × Int)) : Int := if findB g l = true then (findK g l : Int) else -1
def rises (l : List (Int × Int)) : Prop := ∀ j, ∀ (h : j + 1 < l.length), l[j].1 < l[j + 1].1
theorem rises_lt {l : List (Int × Int)} (h : rises l) : ∀ i j, i < j → ∀ (hj : j < l.length), ∀ (hi : i < l.length), l[i].1 < l[j].1 := by
  intro i j hij
  induction j with
  | zero => omega
  | succ n ih =>
    intro hj hi
    by_cases e : i = n
    · subst e; exact h i hj
    · have h1 := ih (by omega) (by omega) hi
      have h2 := h n hj
      omega
def notTo (g : Int) (l : List (Int × Int)) (k : Nat) : Prop := ∀ j, j < k → ∀ (h : j < l.length), l[j].1 ≠ g
theorem ix_at {g : Int} {l : List (Int × Int)} {k : Nat} (hr : rises l) (hk : k < l.length) (hg : l[k].1 = g) : curIx g l = (k : Int) := by
  have hlow : lowTo g l k := fun j hj h => by
    have := rises_lt hr j k hj hk h
    omega
  have hf := find_at hlow hk (by omega)
  unfold curIx
  rw [hf.2, hf.1, if_pos (by simp [hg])]
theorem ix_none {g : Int} {l : List (Int × Int)} {k : Nat} (hk : l.length ≤ k) (h : notTo g l k) : curIx g l = -1 := by
  unfold curIx
  rw [if_neg]
  intro hb
  have hlt := find_lt hb
  unfold findB at hb
  rw [List.getElem?_eq_getElem hlt] at hb
  exact h _ (by omega) hlt (by simpa using hb)
set_option maxHeartbeats 2000000 in
theorem spec_cursor (cap first : Int) (ra : Option Addr) (rl rc : Nat) (ca : Option Addr) (cl cc : Nat) (g : Int) (curs : List (Int × Int)) (w : World) (hc : Curs w ca cl curs) (hr : rises curs) (hcl : cl ≤ 1048576) :
    Calls Tryz.prog 67 #[ringV cap first ra rl rc ca cl cc, .int .i64 g] w fun e w' => e = .returned (.int .i64 (curIx g curs)) ∧ Below w.heap.size w w' := by
  have HC : Hid (Curs w ca cl curs) := hc
  have HL : Hid (curs.length = cl) := hc.1
  have HR : Hid (rises curs) := hr
  have HB : Hid (Below w.heap.size w (w.alloc (ringObj cap first ra rl rc ca cl cc))) := (Below.refl _ _).alloc (Nat.le_refl _) _
  clear hc hr
  go_enter Tryz.func67, Tryz.ntmps67
  go_wp2
  go_loop [5] (fun i => ∃ k : Nat, k ≤ cl ∧ i = .int .i64 k ∧ Hid (notTo g curs k)) (fun i => cl - (intOf i).toNat)
  case atStart => exact ⟨0, by omega, rfl, fun j hj => by omega⟩
  case round =>
    obtain ⟨k, hk, rfl, hn⟩ := hrel
    by_cases hlt : k < cl
    · have hkl : k < curs.length := by rw [HL.out]; exact hlt
      obtain ⟨b, off, hca, g1, _⟩ := (curs_below HC.out HB.out).2 k hkl
      subst hca
      have hbw : b < w.heap.size := World.block_lt_of_cell? w ⟨b, off + k * 2, none⟩ ((HB.out.cell (p := ⟨b, off + k * 2, none⟩) (by
        obtain ⟨b', off', e, hh, _⟩ := HC.out.2 k hkl
        cases e
        exact World.block_lt_of_cell? w ⟨b, off + k * 2, none⟩ hh)).symm.trans g1)
      have hY : curs[k].1 = g → Hid (curIx g curs = (k : Int)) := fun h => ix_at HR.out hkl h
      have hN : curs[k].1 ≠ g → Hid (notTo g curs (k + 1)) := fun h j hj hjl => by
        by_cases e : j = k
        · subst e; exact h
        · exact hn.out j (by omega) hjl
      obtain ⟨G, hG⟩ : ∃ G, curs[k].1 = G := ⟨_, rfl⟩
      rw [hG] at g1 hY hN
      clear hG
      by_cases hg : G = g
      · have hE := hY hg
        have hgb : (G == g) = true := by simp [hg]
        clear hY hN hg
        go_wp2
        go_ret
        exact ⟨ret_int hE.out.symm, HB.out⟩
      · have hE := hN hg
        have hgb : (G == g) = false := by simp [hg]
        clear hY hN hg
        go_wp2
        exact ⟨⟨k + 1, by omega, by go_num, hE.out⟩, by simp [intOf]; omega⟩
    · have hE : Hid (curIx g curs = -1) := ix_none (k := k) (by rw [HL.out]; omega) hn.out
      go_wp2
      go_ret
      exact ⟨ret_int hE.out.symm, HB.out⟩
theorem strs_drop {w : World} {b off n P : Nat} {l : List ByteArray} (h : Strs w (some ⟨b, off, none⟩) n l) (_hP : P ≤ n) : Strs w (some ⟨b, off + P, none⟩) (n - P) (l.drop P) := by
  have hl : l.length = n := h.1
  refine ⟨by simp; omega, fun k hk => ?_⟩
  have hk' : P + k < l.length := by simp at hk; omega
  obtain ⟨b', off', e, hc⟩ := h.2 (P + k) hk'
  cases e
  refine ⟨b, off + P, rfl, ?_⟩
  rw [show off + P + k = off + (P + k) by omega, hc]
  simp
theorem trim_end {w w4 : World} {cap first f : Int} {va va' : Option Addr} {n vc n' vc' : Nat} {qa : Option Addr} {m qc base : Nat} {xs : List Value} (h : SCopy w w4 cap first va n vc qa m qc) (hx : w4.ownsRow base 9 1 (.slice va' n' vc') n' xs) (hb : w.heap.size + 2 ≤ base) :
    ((((((w4.setCell ⟨w.heap.size, 2, none⟩ (.slice va' n' vc')).setCell ⟨w.heap.size, 1, none⟩ (.int .i64 f)).setCell ⟨w.heap.size + 1, 0, none⟩ (.int .i64 cap)).setCell ⟨w.heap.size + 1, 1, none⟩ (.int .i64 f)).setCell ⟨w.heap.size + 1, 2, none⟩ (.slice va' n' vc')).setCell ⟨w.heap.size + 1, 3, none⟩ (.slice qa m qc)).ownsRow w.heap.size 9 1 (.slice va' n' vc') n' xs ∧
    Below w.heap.size w ((((((w4.setCell ⟨w.heap.size, 2, none⟩ (.slice va' n' vc')).setCell ⟨w.heap.size, 1, none⟩ (.int .i64 f)).setCell ⟨w.heap.size + 1, 0, none⟩ (.int .i64 cap)).setCell ⟨w.heap.size + 1, 1, none⟩ (.int .i64 f)).setCell ⟨w.heap.size + 1, 2, none⟩ (.slice va' n' vc')).setCell ⟨w.heap.size + 1, 3, none⟩ (.slice qa m qc)) := by
  have r0 : w.heap.size < base := by omega
  have r1 : w.heap.size + 1 < base := by omega
  have k1 : w.heap.size ≤ w.heap.size + 1 := by omega
  refine ⟨?_, ?_⟩
  · exact (ownsRow_setCell_below (ownsRow_setCell_below (ownsRow_setCell_below (ownsRow_setCell_below (ownsRow_setCell_below (ownsRow_setCell_below hx (a := ⟨w.heap.size, 2, none⟩) r0 _) (a := ⟨w.heap.size, 1, none⟩) r0 _) (a := ⟨w.heap.size + 1, 0, none⟩) r1 _) (a := ⟨w.heap.size + 1, 1, none⟩) r1 _) (a := ⟨w.heap.size + 1, 2, none⟩) r1 _) (a := ⟨w.heap.size + 1, 3, none⟩) r1 _).mono (by omega)
  · exact (((((h.below.setCell (p := ⟨w.heap.size, 2, none⟩) (Nat.le_refl _) _).setCell (p := ⟨w.heap.size, 1, none⟩) (Nat.le_refl _) _).setCell (p := ⟨w.heap.size + 1, 0, none⟩) k1 _).setCell (p := ⟨w.heap.size + 1, 1, none⟩) k1 _).setCell (p := ⟨w.heap.size + 1, 2, none⟩) k1 _).setCell (p := ⟨w.heap.size + 1, 3, none⟩) k1 _
theorem trim_row (w1 : World) (t : TypeId) (size : Nat := 1) : (w1.alloc (.cells #[] t)).ownsRow w1.heap.size t size (.slice (some ⟨w1.heap.size, 0, none⟩) 0 0) 0 [] := by
  have h := World.ownsRow_lit (base := w1.heap.size) (e := t) (size := size) w1 #[] 0 (Nat.le_refl _) (by unfold maxLen; omega) (by simp)
  simpa using h
set_option maxRecDepth 100000 in
set_option maxHeartbeats 4000000 in
theorem spec_trim (recs : List ByteArray) (curs : List (Int × Int)) (P : Nat) (w : World) (hr : StrIn w ra rl rc recs) (hc : Curs w ca cl curs) (hrl : rl ≤ 1048577) (hcl : cl ≤ 1048576) (hrc : rc ≤ maxLen) (_hf : 0 ≤ first ∧ first ≤ 1000000) (hP : curLeast first curs = first + (P : Int)) (hPl : P ≤ rl) :
    Calls Tryz.prog 69 #[ringV cap first ra rl rc ca cl cc] w fun e w' => ∃ a q, e = .returned (ringV cap (first + (P : Int)) a (rl - P) q ca cl cc) ∧ w'.ownsRow w.heap.size 9 1 (.slice a (rl - P) q) (rl - P) ((recs.drop P).map Value.string) ∧ Below w.heap.size w w' := by
  obtain ⟨i0, hi0, hz0, hz1, hz2⟩ := info_parts info_str
  have HLE : Hid _ := fun w hc => spec_least cap first ra rl rc ca cl cc curs w hc hcl
  rw [hP] at HLE
  have HR : Hid (StrIn w ra rl rc recs) := hr
  have HC : Hid (Curs w ca cl curs) := hc
  have HL : Hid (recs.length = rl) := hr.strs.1
  have HS0 : Hid (SCopy w ((w.alloc (ringObj cap first ra rl rc ca cl cc)).alloc (ringObj 0 0 none 0 0 none 0 0)) cap first ra rl rc ca cl cc) := scopy_start w cap first ra rl rc ca cl cc
  clear hr hc hP
  unfold maxLen at hrc
  go_enter Tryz.func69, Tryz.ntmps69
  go_wp2_with fail
  refine (HLE.out _ (curs_below HC.out HS0.out.below)).mono ?_
  rintro e w1 ⟨rfl, hb1⟩
  have hs1 := HS0.out.grown (below_grown hb1) (fun j e => by cases e)
  have HS1 : Hid (SCopy w (w1.alloc (.cells #[] 9)) cap first ra rl rc ca cl cc) := hs1.alloc _
  have g0 := fun o => cell_of_block0 hs1.b0 o
  have hz1' := hs1.size
  have hz1'' : w.heap.size < w1.heap.size := by omega
  have HB1 : Hid (Below w.heap.size w w1) := hs1.below
  clear hs1 hb1
  have hsub : first + (P : Int) - first = (P : Int) := by omega
  by_cases hrp : rc = P
  · have hrlP : rl = P := by have := HR.out.cap; omega
    subst hrp
    subst hrlP
    have HD : Hid ((recs.drop rl).map Value.string = []) := show _ = _ by rw [List.drop_eq_nil_of_le (by rw [HL.out]; exact Nat.le_refl _)]; rfl
    go_wp2_with (at_builtin; refine wpList_append_own_any (by rfl) _ _ 23 (by rfl) w1.heap.size 9 i0 _ 1 16 Tryz.underlying23 hi0 hz0 hz1 hz2 (by rfl) (by omega) (.slice (some ⟨w1.heap.size, 0, none⟩) 0 0) 0 [] (by rfl) (trim_row _ _) ra 0 0 [] (by rfl) (by rfl) (fun _ => ⟨rfl, rfl⟩) (fun ad e j u h => by simp at h) (fun u h => by cases h) (by unfold maxLen; omega) (by omega) (by simp) ?_; intro v1 w2 ho2 hg2; simp only [Nat.zero_add, List.nil_append] at ho2; obtain ⟨a1, c1, rfl⟩ := own_strV ho2; have hs2 := HS1.out.grown hg2 (fun j e => by simp [Value.ownBlock] at e; omega); have g1 := fun o => cell_of_block0 hs2.b0 o; have f1 := fun o => unfrozen_of_block0 hs2.b0 o; have g2 := fun o => cell_of_block0 hs2.b1 o; have f2 := fun o => unfrozen_of_block0 hs2.b1 o; have HF : Hid _ := trim_end (f := first + (rl : Int)) hs2 ho2 hz1'; clear hs2 ho2 hg2)
    obtain ⟨hx, hy⟩ := HF.out
    exact bodyPost_ret (v := ringV cap (first + (rl : Int)) a1 (0) c1 ca cl cc) (by simp [results, Tryz.results69, go_sem, g2]) rfl ⟨a1, c1, by rw [Nat.sub_self], by rw [Nat.sub_self, HD.out]; exact hx, hy⟩
  · obtain ⟨b, off, rfl⟩ : ∃ b off, ra = some ⟨b, off, none⟩ := by
      cases ra with
      | none => have := HR.out.nil rfl; omega
      | some x => exact ⟨x.block, x.off, by rw [← HR.out.off x rfl]⟩
    have hcap := HR.out.cap
    have hlt : P < rc := by omega
    have HST : Hid (Strs w (some ⟨b, off + P, none⟩) (rl - P) (recs.drop P)) := strs_drop HR.out.strs hPl
    go_wp2_with (at_builtin; refine wpList_append_own_any (by rfl) _ _ 23 (by rfl) w1.heap.size 9 i0 _ 1 16 Tryz.underlying23 hi0 hz0 hz1 hz2 (by rfl) (by omega) (.slice (some ⟨w1.heap.size, 0, none⟩) 0 0) 0 [] (by rfl) (trim_row _ _) (some ⟨b, off + P, none⟩) (rl - P) (rc - P) ((recs.drop P).map Value.string) (by rfl) (by rw [List.length_map, List.length_drop, HL.out]; omega) (fun e => by cases e) (strs_news (strs_below HST.out HS1.out.below)) (strCells_one _) (by unfold maxLen; omega) (by omega) (by simp) ?_; intro v1 w2 ho2 hg2; simp only [Nat.zero_add, List.nil_append] at ho2; obtain ⟨a1, c1, rfl⟩ := own_strV ho2; have hs2 := HS1.out.grown hg2 (fun j e => by simp [Value.ownBlock] at e; omega); have g1 := fun o => cell_of_block0 hs2.b0 o; have f1 := fun o => unfrozen_of_block0 hs2.b0 o; have g2 := fun o => cell_of_block0 hs2.b1 o; have f2 := fun o => unfrozen_of_block0 hs2.b1 o; have HF : Hid _ := trim_end (f := first + (P : Int)) hs2 ho2 hz1'; clear hs2 ho2 hg2)
    obtain ⟨hx, hy⟩ := HF.out
    exact bodyPost_ret (v := ringV cap (first + (P : Int)) a1 (rl - P) c1 ca cl cc) (by simp [results, Tryz.results69, go_sem, g2]) rfl ⟨a1, c1, rfl, hx, hy⟩
end Go.Proofs.YtopbfjdjlgecpaaGreatDoor
