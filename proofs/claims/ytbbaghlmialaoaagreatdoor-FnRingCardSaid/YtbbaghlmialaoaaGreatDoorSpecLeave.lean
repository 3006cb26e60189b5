import Derived.Test.YtbbaghlmialaoaaGreatDoorLawRingOut0
import Derived.Test.YtbbaghlmialaoaaGreatDoorRingNew
/- The specification's rings: copies, cursors. -/
namespace Go.Proofs.YtbbaghlmialaoaaGreatDoor
open Go.RowKit
variable {cap first : Int} {ra ca : Option Addr} {rl rc cl cc : Nat}

/-- While the specification copies a ring: its box and the answer's. -/
structure SCopy (w wr : World) (cap first : Int) (va : Option Addr) (n vc : Nat) (qa : Option Addr) (m qc : Nat) : Prop where
  b0 : wr.heap[w.heap.size]? = some (ringObj cap first va n vc qa m qc)
  b1 : wr.heap[w.heap.size + 1]? = some (ringObj 0 0 none 0 0 none 0 0)
  below : Below w.heap.size w wr
  size : w.heap.size + 2 ≤ wr.heap.size
theorem SCopy.grown {w wr wx : World} {cap first : Int} {va : Option Addr} {n vc : Nat} {qa : Option Addr} {m qc : Nat} {row : Option Nat} (h : SCopy w wr cap first va n vc qa m qc) (hg : wr.grownBy wx row) (hr : ∀ j, row = some j → w.heap.size + 2 ≤ j) : SCopy w wx cap first va n vc qa m qc := by
  have hz := h.size
  exact ⟨(hg.block _ (by omega) (fun e => by have := hr _ e.symm; omega)).trans h.b0, (hg.block _ (by omega) (fun e => by have := hr _ e.symm; omega)).trans h.b1, h.below.grown hg (by omega) (fun j e => by have := hr j e; omega), Nat.le_trans h.size hg.size⟩
theorem SCopy.set2 {w wr : World} {cap first : Int} {va : Option Addr} {n vc : Nat} {qa : Option Addr} {m qc : Nat} (h : SCopy w wr cap first va n vc qa m qc) (va' : Option Addr) (n' vc' : Nat) : SCopy w (wr.setCell ⟨w.heap.size, 2, none⟩ (.slice va' n' vc')) cap first va' n' vc' qa m qc :=
  ⟨heap_setCell_same wr w.heap.size 2 _ _ _ h.b0, (Below.heap_setCell wr ⟨w.heap.size, 2, none⟩ _ (w.heap.size + 1) (show w.heap.size + 1 ≠ w.heap.size by omega)).trans h.b1, h.below.setCell (p := ⟨w.heap.size, 2, none⟩) (Nat.le_refl _) _, by simpa [World.setCell] using h.size⟩
theorem SCopy.set3 {w wr : World} {cap first : Int} {va : Option Addr} {n vc : Nat} {qa : Option Addr} {m qc : Nat} (h : SCopy w wr cap first va n vc qa m qc) (va' : Option Addr) (n' vc' : Nat) : SCopy w (wr.setCell ⟨w.heap.size, 3, none⟩ (.slice va' n' vc')) cap first va n vc va' n' vc' :=
  ⟨heap_setCell_same wr w.heap.size 3 _ _ _ h.b0, (Below.heap_setCell wr ⟨w.heap.size, 3, none⟩ _ (w.heap.size + 1) (show w.heap.size + 1 ≠ w.heap.size by omega)).trans h.b1, h.below.setCell (p := ⟨w.heap.size, 3, none⟩) (Nat.le_refl _) _, by simpa [World.setCell] using h.size⟩
theorem SCopy.set1 {w wr : World} {cap first : Int} {va : Option Addr} {n vc : Nat} {qa : Option Addr} {m qc : Nat} (h : SCopy w wr cap first va n vc qa m qc) (f : Int) : SCopy w (wr.setCell ⟨w.heap.size, 1, none⟩ (.int .i64 f)) cap f va n vc qa m qc :=
  ⟨heap_setCell_same wr w.heap.size 1 _ _ _ h.b0, (Below.heap_setCell wr ⟨w.heap.size, 1, none⟩ _ (w.heap.size + 1) (show w.heap.size + 1 ≠ w.heap.size by omega)).trans h.b1, h.below.setCell (p := ⟨w.heap.size, 1, none⟩) (Nat.le_refl _) _, by simpa [World.setCell] using h.size⟩
theorem scopy_start (w : World) (cap first : Int) (ra : Option Addr) (rl rc : Nat) (ca : Option Addr) (cl cc : Nat) : SCopy w ((w.alloc (ringObj cap first ra rl rc ca cl cc)).alloc (ringObj 0 0 none 0 0 none 0 0)) cap first ra rl rc ca cl cc := by
  refine ⟨(Below.heap_alloc _ _ _ (by simp)).trans (heap_alloc_new _ _), ?_, ((Below.refl _ _).alloc (Nat.le_refl _) _).alloc (by simp) _, by simp⟩
  have h := heap_alloc_new (w.alloc (ringObj cap first ra rl rc ca cl cc)) (ringObj 0 0 none 0 0 none 0 0)
  rwa [World.size_alloc] at h
theorem SCopy.alloc {w wr : World} {cap first : Int} {va : Option Addr} {n vc : Nat} {qa : Option Addr} {m qc : Nat} (h : SCopy w wr cap first va n vc qa m qc) (o : Obj) : SCopy w (wr.alloc o) cap first va n vc qa m qc := h.grown (World.grownBy_alloc wr o none) (fun j e => by cases e)
theorem scopy_row (w : World) (o o' : Obj) (t : TypeId) (size : Nat := 1) : (((w.alloc o).alloc o').alloc (.cells #[] t)).ownsRow (w.heap.size + 2) t size (.slice (some ⟨w.heap.size + 1 + 1, 0, none⟩) 0 0) 0 [] := by
  have h := World.ownsRow_lit (base := w.heap.size + 2) (e := t) (size := size) ((w.alloc o).alloc o') #[] 0 (by simp) (by unfold maxLen; omega) (by simp)
  simpa using h
theorem scopy_row2 (w : World) (p : Addr) (v : Value) (t : TypeId) (size : Nat := 2) : ((w.setCell p v).alloc (.cells #[] t)).ownsRow w.heap.size t size (.slice (some ⟨w.heap.size, 0, none⟩) 0 0) 0 [] := by
  have h := World.ownsRow_lit (base := w.heap.size) (e := t) (size := size) (w.setCell p v) #[] 0 (by simp [World.setCell]) (by unfold maxLen; omega) (by simp)
  simpa [World.setCell] using h
theorem scopy_keep {w w2 w4 : World} {n c : Nat} {a : Option Addr} {xs : List Value} {o : Obj} {v : Value} (h : w2.ownsRow (w.heap.size + 2) 9 1 (.slice a n c) n xs) (hg : ((w2.setCell ⟨w.heap.size, 2, none⟩ v).alloc o).grownBy w4 (Value.slice (some ⟨w2.heap.size, 0, none⟩) 0 0).ownBlock) : w4.ownsRow (w.heap.size + 2) 9 1 (.slice a n c) n xs := by
  have h1 := (ownsRow_setCell_below h (a := ⟨w.heap.size, 2, none⟩) (show w.heap.size < w.heap.size + 2 by omega) v).alloc o
  refine h1.kept hg ?_
  cases hq : (Value.slice a n c).ownBlock with
  | none => exact .inl rfl
  | some g =>
    right
    have := (h.lt g hq).2
    intro e
    simp [Value.ownBlock] at e
    omega
theorem scopy_end {w w4 : World} {cap first : Int} {va : Option Addr} {n vc : Nat} {qa qa' : Option Addr} {m qc qc' base : Nat} {xs ys : List Value} (h : SCopy w w4 cap first va n vc qa m qc) (hy : w4.ownsRow base 47 2 (.slice qa' m qc') m ys) (hx : w4.ownsRow (w.heap.size + 2) 9 1 (.slice va n vc) n xs) (hb : w.heap.size + 2 ≤ base) :
    OwnRing (((((w4.setCell ⟨w.heap.size, 3, none⟩ (.slice qa' m qc')).setCell ⟨w.heap.size + 1, 0, none⟩ (.int .i64 cap)).setCell ⟨w.heap.size + 1, 1, none⟩ (.int .i64 first)).setCell ⟨w.heap.size + 1, 2, none⟩ (.slice va n vc)).setCell ⟨w.heap.size + 1, 3, none⟩ (.slice qa' m qc')) w.heap.size va n vc qa' m qc' xs ys ∧
    Below w.heap.size w (((((w4.setCell ⟨w.heap.size, 3, none⟩ (.slice qa' m qc')).setCell ⟨w.heap.size + 1, 0, none⟩ (.int .i64 cap)).setCell ⟨w.heap.size + 1, 1, none⟩ (.int .i64 first)).setCell ⟨w.heap.size + 1, 2, none⟩ (.slice va n vc)).setCell ⟨w.heap.size + 1, 3, none⟩ (.slice qa' m qc')) := by
  have q0 : w.heap.size < w.heap.size + 2 := by omega
  have q1 : w.heap.size + 1 < w.heap.size + 2 := by omega
  have r0 : w.heap.size < base := by omega
  have r1 : w.heap.size + 1 < base := by omega
  have k1 : w.heap.size ≤ w.heap.size + 1 := by omega
  refine ⟨⟨?_, ?_⟩, ?_⟩
  · exact (ownsRow_setCell_below (ownsRow_setCell_below (ownsRow_setCell_below (ownsRow_setCell_below (ownsRow_setCell_below hx (a := ⟨w.heap.size, 3, none⟩) q0 _) (a := ⟨w.heap.size + 1, 0, none⟩) q1 _) (a := ⟨w.heap.size + 1, 1, none⟩) q1 _) (a := ⟨w.heap.size + 1, 2, none⟩) q1 _) (a := ⟨w.heap.size + 1, 3, none⟩) q1 _).mono (by omega)
  · exact (ownsRow_setCell_below (ownsRow_setCell_below (ownsRow_setCell_below (ownsRow_setCell_below (ownsRow_setCell_below hy (a := ⟨w.heap.size, 3, none⟩) r0 _) (a := ⟨w.heap.size + 1, 0, none⟩) r1 _) (a := ⟨w.heap.size + 1, 1, none⟩) r1 _) (a := ⟨w.heap.size + 1, 2, none⟩) r1 _) (a := ⟨w.heap.size + 1, 3, none⟩) r1 _).mono (by omega)
  · exact ((((h.below.setCell (p := ⟨w.heap.size, 3, none⟩) (Nat.le_refl _) _).setCell (p := ⟨w.heap.size + 1, 0, none⟩) k1 _).setCell (p := ⟨w.heap.size + 1, 1, none⟩) k1 _).setCell (p := ⟨w.heap.size + 1, 2, none⟩) k1 _).setCell (p := ⟨w.heap.size + 1, 3, none⟩) k1 _
set_option maxRecDepth 100000 in
set_option maxHeartbeats 4000000 in
theorem spec_copy (recs : List ByteArray) (curs : List (Int × Int)) (w : World) (hr : StrIn w ra rl rc recs) (hc : CurIn w ca cl cc curs) (hrl : rl ≤ 1048577) (hcl : cl ≤ 1048577) :
    Calls Tryz.prog 65 #[ringV cap first ra rl rc ca cl cc] w fun e w' => ∃ a q c p, e = .returned (ringV cap first a rl q c cl p) ∧ OwnRing w' w.heap.size a rl q c cl p (recs.map Value.string) (curCells curs) ∧ Below w.heap.size w w' := by
  obtain ⟨i0, hi0, hz0, hz1, hz2⟩ := info_parts info_str
  obtain ⟨j0, hj0, hy0, hy1, hy2⟩ := info_parts info_cur
  have HR : Hid (StrIn w ra rl rc recs) := hr
  have HC : Hid (CurIn w ca cl cc curs) := hc
  have HL : Hid (recs.length = rl) := hr.strs.1
  have HLC : Hid (curs.length = cl) := hc.curs.1
  clear hr hc
  go_enter Tryz.func65, Tryz.ntmps65
  have HS0 : Hid (SCopy w (((w.alloc (ringObj cap first ra rl rc ca cl cc)).alloc (ringObj 0 0 none 0 0 none 0 0)).alloc (.cells #[] 9)) cap first ra rl rc ca cl cc) := (scopy_start w cap first ra rl rc ca cl cc).alloc _
  go_wp2_with (first
    | (at_builtin; refine wpList_append_own_any (by rfl) _ _ 23 (by rfl) (w.heap.size + 2) 9 i0 _ 1 16 Tryz.underlying23 hi0 hz0 hz1 hz2 (by rfl) (by omega) (.slice (some ⟨w.heap.size + 1 + 1, 0, none⟩) 0 0) 0 [] (by rfl) (scopy_row _ _ _ _) ra rl rc (recs.map Value.string) (by rfl) (by rw [List.length_map, HL.out]; omega) HR.out.nil (strs_news (strs_below HR.out.strs HS0.out.below)) (strCells_one _) (by unfold maxLen; omega) (by omega) (by simp) ?_; intro v1 w2 ho2 hg2; simp only [Nat.zero_add, List.nil_append] at ho2; obtain ⟨a1, c1, rfl⟩ := own_strV ho2; have hs2 := HS0.out.grown hg2 (fun j e => by simp [Value.ownBlock] at e; omega); have g0 := fun o => cell_of_block0 hs2.b0 o; have f0 := fun o => unfrozen_of_block0 hs2.b0 o; have HS3 : Hid (SCopy w ((w2.setCell ⟨w.heap.size, 2, none⟩ (.slice a1 rl c1)).alloc (.cells #[] 47)) cap first a1 rl c1 ca cl cc) := (hs2.set2 a1 rl c1).alloc _; have HO2 : Hid (w2.ownsRow (w.heap.size + 2) 9 1 (.slice a1 rl c1) rl (recs.map Value.string)) := ho2; have hz2' := hs2.size; have hz3' : w.heap.size < w2.heap.size := (by omega); clear hs2 hg2 ho2)
    | (at_builtin; refine wpList_append_own_any (by rfl) _ _ 24 (by rfl) w2.heap.size 47 j0 _ 2 16 Tryz.underlying24 hj0 hy0 hy1 hy2 (by rfl) (by omega) (.slice (some ⟨w2.heap.size, 0, none⟩) 0 0) 0 [] (by rfl) (scopy_row2 _ _ _ _) ca cl cc (curCells curs) (by rfl) (by rw [curCells_length, HLC.out]) HC.out.nil (curs_news (curs_below HC.out.curs HS3.out.below)) (curCells_one _) (by unfold maxLen; omega) (by omega) (by simp [World.setCell]) ?_; intro v3 w4 ho4 hg4; simp only [Nat.zero_add, List.nil_append] at ho4; obtain ⟨a3, c3, rfl⟩ := own_curV ho4; have hs4 := HS3.out.grown hg4 (fun j e => by simp [Value.ownBlock] at e; omega); have g1 := fun o => cell_of_block0 hs4.b0 o; have f1 := fun o => unfrozen_of_block0 hs4.b0 o; have g2 := fun o => cell_of_block0 hs4.b1 o; have f2 := fun o => unfrozen_of_block0 hs4.b1 o; have HF : Hid _ := scopy_end hs4 ho4 (scopy_keep HO2.out hg4) hz2'; clear hs4 hg4 ho4))
  obtain ⟨hx, hy⟩ := HF.out
  exact bodyPost_ret (v := ringV cap first a1 rl c1 a3 cl c3) (by simp [results, Tryz.results65, go_sem, g2]) rfl ⟨a1, c1, a3, c3, rfl, hx, hy⟩
end Go.Proofs.YtbbaghlmialaoaaGreatDoor
/- The specification's rings: a group's cursor, and what has passed. -/
namespace Go.Proofs.YtbbaghlmialaoaaGreatDoor
open Go.RowKit
variable {cap first : Int} {ra ca : Option Addr} {rl rc cl cc : Nat}

/-- The place of a group's cursor, or -1. -/
def curIx (g : Int) (l : List (Int × Int)) : Int := if findB g l = true then (findK g l : Int) else -1
def rises (l : List (Int × Int)) : Prop := ∀ j, ∀ (h : j + 1 < l.length), l[j].1 < l[j + 1].1
theorem rises_lt {l : List (Int × Int)} (h : rises l) : ∀ i j, i < j → ∀ (hj : j < l.length), ∀ (hi : i < l.length), l[i].1 < l[j].1 := by
  intro i j hij
  induction j with
  | zero => omega
  | succ n ih =>
    intro hj hi
    by_cases e : i = n
    · subst e; exact h i hj
    · have h1 := ih (by omega) (by omega) hi
      have h2 := h n hj
      omega
def notTo (g : Int) (l : List (Int × Int)) (k : Nat) : Prop := ∀ j, j < k → ∀ (h : j < l.length), l[j].1 ≠ g
theorem ix_at {g : Int} {l : List (Int × Int)} {k : Nat} (hr : rises l) (hk : k < l.length) (hg : l[k].1 = g) : curIx g l = (k : Int) := by
  have hlow : lowTo g l k := fun j hj h => by
    have := rises_lt hr j k hj hk h
    omega
  have hf := find_at hlow hk (by omega)
  unfold curIx
  rw [hf.2, hf.1, if_pos (by simp [hg])]
theorem ix_none {g : Int} {l : List (Int × Int)} {k : Nat} (hk : l.length ≤ k) (h : notTo g l k) : curIx g l = -1 := by
  unfold curIx
  rw [if_neg]
  intro hb
  have hlt := find_lt hb
  unfold findB at hb
  rw [List.getElem?_eq_getElem hlt] at hb
  exact h _ (by omega) hlt (by simpa using hb)
set_option maxHeartbeats 2000000 in
theorem spec_cursor (cap first : Int) (ra : Option Addr) (rl rc : Nat) (ca : Option Addr) (cl cc : Nat) (g : Int) (curs : List (Int × Int)) (w : World) (hc : Curs w ca cl curs) (hr : rises curs) (hcl : cl ≤ 1048576) :
    Calls Tryz.prog 68 #[ringV cap first ra rl rc ca cl cc, .int .i64 g] w fun e w' => e = .returned (.int .i64 (curIx g curs)) ∧ Below w.heap.size w w' := by
  have HC : Hid (Curs w ca cl curs) := hc
  have HL : Hid (curs.length = cl) := hc.1
  have HR : Hid (rises curs) := hr
  have HB : Hid (Below w.heap.size w (w.alloc (ringObj cap first ra rl rc ca cl cc))) := (Below.refl _ _).alloc (Nat.le_refl _) _
  clear hc hr
  go_enter Tryz.func68, Tryz.ntmps68
  go_wp2
  go_loop [5] (fun i => ∃ k : Nat, k ≤ cl ∧ i = .int .i64 k ∧ Hid (notTo g curs k)) (fun i => cl - (intOf i).toNat)
  case atStart => exact ⟨0, by omega, rfl, fun j hj => by omega⟩
  case round =>
    obtain ⟨k, hk, rfl, hn⟩ := hrel
    by_cases hlt : k < cl
    · have hkl : k < curs.length := by rw [HL.out]; exact hlt
      obtain ⟨b, off, hca, g1, _⟩ := (curs_below HC.out HB.out).2 k hkl
      subst hca
      have hbw : b < w.heap.size := World.block_lt_of_cell? w ⟨b, off + k * 2, none⟩ ((HB.out.cell (p := ⟨b, off + k * 2, none⟩) (by
        obtain ⟨b', off', e, hh, _⟩ := HC.out.2 k hkl
        cases e
        exact World.block_lt_of_cell? w ⟨b, off + k * 2, none⟩ hh)).symm.trans g1)
      have hY : curs[k].1 = g → Hid (curIx g curs = (k : Int)) := fun h => ix_at HR.out hkl h
      have hN : curs[k].1 ≠ g → Hid (notTo g curs (k + 1)) := fun h j hj hjl => by
        by_cases e : j = k
        · subst e; exact h
        · exact hn.out j (by omega) hjl
      obtain ⟨G, hG⟩ : ∃ G, curs[k].1 = G := ⟨_, rfl⟩
      rw [hG] at g1 hY hN
      clear hG
      by_cases hg : G = g
      · have hE := hY hg
        have hgb : (G == g) = true := by simp [hg]
        clear hY hN hg
        go_wp2
        go_ret
        exact ⟨ret_int hE.out.symm, HB.out⟩
      · have hE := hN hg
        have hgb : (G == g) = false := by simp [hg]
        clear hY hN hg
        go_wp2
        exact ⟨⟨k + 1, by omega, by go_num, hE.out⟩, by simp [intOf]; omega⟩
    · have hE : Hid (curIx g curs = -1) := ix_none (k := k) (by rw [HL.out]; omega) hn.out
      go_wp2
      go_ret
      exact ⟨ret_int hE.out.symm, HB.out⟩
theorem strs_drop {w : World} {b off n P : Nat} {l : List ByteArray} (h : Strs w (some ⟨b, off, none⟩) n l) (_hP : P ≤ n) : Strs w (some ⟨b, off + P, none⟩) (n - P) (l.drop P) := by
  have hl : l.length = n := h.1
  refine ⟨by simp; omega, fun k hk => ?_⟩
  have hk' : P + k < l.length := by simp at hk; omega
  obtain ⟨b', off', e, hc⟩ := h.2 (P + k) hk'
  cases e
  refine ⟨b, off + P, rfl, ?_⟩
  rw [show off + P + k = off + (P + k) by omega, hc]
  simp
theorem trim_end {w w4 : World} {cap first f : Int} {va va' : Option Addr} {n vc n' vc' : Nat} {qa : Option Addr} {m qc base : Nat} {xs : List Value} (h : SCopy w w4 cap first va n vc qa m qc) (hx : w4.ownsRow base 9 1 (.slice va' n' vc') n' xs) (hb : w.heap.size + 2 ≤ base) :
    ((((((w4.setCell ⟨w.heap.size, 2, none⟩ (.slice va' n' vc')).setCell ⟨w.heap.size, 1, none⟩ (.int .i64 f)).setCell ⟨w.heap.size + 1, 0, none⟩ (.int .i64 cap)).setCell ⟨w.heap.size + 1, 1, none⟩ (.int .i64 f)).setCell ⟨w.heap.size + 1, 2, none⟩ (.slice va' n' vc')).setCell ⟨w.heap.size + 1, 3, none⟩ (.slice qa m qc)).ownsRow w.heap.size 9 1 (.slice va' n' vc') n' xs ∧
    Below w.heap.size w ((((((w4.setCell ⟨w.heap.size, 2, none⟩ (.slice va' n' vc')).setCell ⟨w.heap.size, 1, none⟩ (.int .i64 f)).setCell ⟨w.heap.size + 1, 0, none⟩ (.int .i64 cap)).setCell ⟨w.heap.size + 1, 1, none⟩ (.int .i64 f)).setCell ⟨w.heap.size + 1, 2, none⟩ (.slice va' n' vc')).setCell ⟨w.heap.size + 1, 3, none⟩ (.slice qa m qc)) := by
  have r0 : w.heap.size < base := by omega
  have r1 : w.heap.size + 1 < base := by omega
  have k1 : w.heap.size ≤ w.heap.size + 1 := by omega
  refine ⟨?_, ?_⟩
  · exact (ownsRow_setCell_below (ownsRow_setCell_below (ownsRow_setCell_below (ownsRow_setCell_below (ownsRow_setCell_below (ownsRow_setCell_below hx (a := ⟨w.heap.size, 2, none⟩) r0 _) (a := ⟨w.heap.size, 1, none⟩) r0 _) (a := ⟨w.heap.size + 1, 0, none⟩) r1 _) (a := ⟨w.heap.size + 1, 1, none⟩) r1 _) (a := ⟨w.heap.size + 1, 2, none⟩) r1 _) (a := ⟨w.heap.size + 1, 3, none⟩) r1 _).mono (by omega)
  · exact (((((h.below.setCell (p := ⟨w.heap.size, 2, none⟩) (Nat.le_refl _) _).setCell (p := ⟨w.heap.size, 1, none⟩) (Nat.le_refl _) _).setCell (p := ⟨w.heap.size + 1, 0, none⟩) k1 _).setCell (p := ⟨w.heap.size + 1, 1, none⟩) k1 _).setCell (p := ⟨w.heap.size + 1, 2, none⟩) k1 _).setCell (p := ⟨w.heap.size + 1, 3, none⟩) k1 _
theorem trim_row (w1 : World) (t : TypeId) (size : Nat := 1) : (w1.alloc (.cells #[] t)).ownsRow w1.heap.size t size (.slice (some ⟨w1.heap.size, 0, none⟩) 0 0) 0 [] := by
  have h := World.ownsRow_lit (base := w1.heap.size) (e := t) (size := size) w1 #[] 0 (Nat.le_refl _) (by unfold maxLen; omega) (by simp)
  simpa using h
set_option maxRecDepth 100000 in
set_option maxHeartbeats 4000000 in
theorem spec_trim (recs : List ByteArray) (curs : List (Int × Int)) (P : Nat) (w : World) (hr : StrIn w ra rl rc recs) (hc : Curs w ca cl curs) (hrl : rl ≤ 1048577) (hcl : cl ≤ 1048576) (hrc : rc ≤ maxLen) (_hf : 0 ≤ first ∧ first ≤ 1000000) (hP : curLeast first curs = first + (P : Int)) (hPl : P ≤ rl) :
    Calls Tryz.prog 70 #[ringV cap first ra rl rc ca cl cc] w fun e w' => ∃ a q, e = .returned (ringV cap (first + (P : Int)) a (rl - P) q ca cl cc) ∧ w'.ownsRow w.heap.size 9 1 (.slice a (rl - P) q) (rl - P) ((recs.drop P).map Value.string) ∧ Below w.heap.size w w' := by
  obtain ⟨i0, hi0, hz0, hz1, hz2⟩ := info_parts info_str
  have HLE : Hid _ := fun w hc => spec_least cap first ra rl rc ca cl cc curs w hc hcl
  rw [hP] at HLE
  have HR : Hid (StrIn w ra rl rc recs) := hr
  have HC : Hid (Curs w ca cl curs) := hc
  have HL : Hid (recs.length = rl) := hr.strs.1
  have HS0 : Hid (SCopy w ((w.alloc (ringObj cap first ra rl rc ca cl cc)).alloc (ringObj 0 0 none 0 0 none 0 0)) cap first ra rl rc ca cl cc) := scopy_start w cap first ra rl rc ca cl cc
  clear hr hc hP
  unfold maxLen at hrc
  go_enter Tryz.func70, Tryz.ntmps70
  go_wp2_with fail
  refine (HLE.out _ (curs_below HC.out HS0.out.below)).mono ?_
  rintro e w1 ⟨rfl, hb1⟩
  have hs1 := HS0.out.grown (below_grown hb1) (fun j e => by cases e)
  have HS1 : Hid (SCopy w (w1.alloc (.cells #[] 9)) cap first ra rl rc ca cl cc) := hs1.alloc _
  have g0 := fun o => cell_of_block0 hs1.b0 o
  have hz1' := hs1.size
  have hz1'' : w.heap.size < w1.heap.size := by omega
  have HB1 : Hid (Below w.heap.size w w1) := hs1.below
  clear hs1 hb1
  have hsub : first + (P : Int) - first = (P : Int) := by omega
  by_cases hrp : rc = P
  · have hrlP : rl = P := by have := HR.out.cap; omega
    subst hrp
    subst hrlP
    have HD : Hid ((recs.drop rl).map Value.string = []) := show _ = _ by rw [List.drop_eq_nil_of_le (by rw [HL.out]; exact Nat.le_refl _)]; rfl
    go_wp2_with (at_builtin; refine wpList_append_own_any (by rfl) _ _ 23 (by rfl) w1.heap.size 9 i0 _ 1 16 Tryz.underlying23 hi0 hz0 hz1 hz2 (by rfl) (by omega) (.slice (some ⟨w1.heap.size, 0, none⟩) 0 0) 0 [] (by rfl) (trim_row _ _) ra 0 0 [] (by rfl) (by rfl) (fun _ => ⟨rfl, rfl⟩) (fun ad e j u h => by simp at h) (fun u h => by cases h) (by unfold maxLen; omega) (by omega) (by simp) ?_; intro v1 w2 ho2 hg2; simp only [Nat.zero_add, List.nil_append] at ho2; obtain ⟨a1, c1, rfl⟩ := own_strV ho2; have hs2 := HS1.out.grown hg2 (fun j e => by simp [Value.ownBlock] at e; omega); have g1 := fun o => cell_of_block0 hs2.b0 o; have f1 := fun o => unfrozen_of_block0 hs2.b0 o; have g2 := fun o => cell_of_block0 hs2.b1 o; have f2 := fun o => unfrozen_of_block0 hs2.b1 o; have HF : Hid _ := trim_end (f := first + (rl : Int)) hs2 ho2 hz1'; clear hs2 ho2 hg2)
    obtain ⟨hx, hy⟩ := HF.out
    exact bodyPost_ret (v := ringV cap (first + (rl : Int)) a1 (0) c1 ca cl cc) (by simp [results, Tryz.results70, go_sem, g2]) rfl ⟨a1, c1, by rw [Nat.sub_self], by rw [Nat.sub_self, HD.out]; exact hx, hy⟩
  · obtain ⟨b, off, rfl⟩ : ∃ b off, ra = some ⟨b, off, none⟩ := by
      cases ra with
      | none => have := HR.out.nil rfl; omega
      | some x => exact ⟨x.block, x.off, by rw [← HR.out.off x rfl]⟩
    have hcap := HR.out.cap
    have hlt : P < rc := by omega
    have HST : Hid (Strs w (some ⟨b, off + P, none⟩) (rl - P) (recs.drop P)) := strs_drop HR.out.strs hPl
    go_wp2_with (at_builtin; refine wpList_append_own_any (by rfl) _ _ 23 (by rfl) w1.heap.size 9 i0 _ 1 16 Tryz.underlying23 hi0 hz0 hz1 hz2 (by rfl) (by omega) (.slice (some ⟨w1.heap.size, 0, none⟩) 0 0) 0 [] (by rfl) (trim_row _ _) (some ⟨b, off + P, none⟩) (rl - P) (rc - P) ((recs.drop P).map Value.string) (by rfl) (by rw [List.length_map, List.length_drop, HL.out]; omega) (fun e => by cases e) (strs_news (strs_below HST.out HS1.out.below)) (strCells_one _) (by unfold maxLen; omega) (by omega) (by simp) ?_; intro v1 w2 ho2 hg2; simp only [Nat.zero_add, List.nil_append] at ho2; obtain ⟨a1, c1, rfl⟩ := own_strV ho2; have hs2 := HS1.out.grown hg2 (fun j e => by simp [Value.ownBlock] at e; omega); have g1 := fun o => cell_of_block0 hs2.b0 o; have f1 := fun o => unfrozen_of_block0 hs2.b0 o; have g2 := fun o => cell_of_block0 hs2.b1 o; have f2 := fun o => unfrozen_of_block0 hs2.b1 o; have HF : Hid _ := trim_end (f := first + (P : Int)) hs2 ho2 hz1'; clear hs2 ho2 hg2)
    obtain ⟨hx, hy⟩ := HF.out
    exact bodyPost_ret (v := ringV cap (first + (P : Int)) a1 (rl - P) c1 ca cl cc) (by simp [results, Tryz.results70, go_sem, g2]) rfl ⟨a1, c1, rfl, hx, hy⟩
end Go.Proofs.YtbbaghlmialaoaaGreatDoor
/- Leave of the specification. -/
namespace Go.Proofs.YtbbaghlmialaoaaGreatDoor
open Go.RowKit
variable {cap first : Int} {ra ca : Option Addr} {rl rc cl cc : Nat}

theorem curs_drop {w : World} {b off n P : Nat} {l : List (Int × Int)} (h : Curs w (some ⟨b, off, none⟩) n l) (_hP : P ≤ n) : Curs w (some ⟨b, off + P * 2, none⟩) (n - P) (l.drop P) := by
  have hl : l.length = n := h.1
  refine ⟨by simp; omega, fun k hk => ?_⟩
  have hk' : P + k < l.length := by simp at hk; omega
  obtain ⟨b', off', e, hc, hd⟩ := h.2 (P + k) hk'
  cases e
  refine ⟨b, off + P * 2, rfl, ?_, ?_⟩
  · rw [show off + P * 2 + k * 2 = off + (P + k) * 2 by omega, hc]; simp
  · rw [show off + P * 2 + k * 2 + 1 = off + (P + k) * 2 + 1 by omega, hd]; simp
theorem curs_take {w : World} {b off n P : Nat} {l : List (Int × Int)} (h : Curs w (some ⟨b, off, none⟩) n l) (hP : P ≤ n) : Curs w (some ⟨b, off, none⟩) P (l.take P) := by
  have hl : l.length = n := h.1
  refine ⟨by simp; omega, fun k hk => ?_⟩
  have hk' : k < P := by simp at hk; omega
  obtain ⟨b', off', e, hc, hd⟩ := h.2 k (by omega)
  cases e
  exact ⟨b, off, rfl, by rw [hc]; simp, by rw [hd]; simp⟩
theorem leave_keep {w w4 w6 : World} {cap first : Int} {ra ca : Option Addr} {rl rc cl cc : Nat} {a4 c4 : Option Addr} {q4 p4 : Nat} {row : Option Nat} (hW : Below (W2 w cap first ra rl rc ca cl cc).heap.size (W2 w cap first ra rl rc ca cl cc) w4) (hB : Below w.heap.size w w4) (hg : ((w4.alloc (ringObj cap first a4 rl q4 c4 cl p4)).alloc (.cells #[] 47)).grownBy w6 row) (hr : ∀ j, row = some j → w4.heap.size + 1 ≤ j) :
    w6.heap[w4.heap.size]? = some (ringObj cap first a4 rl q4 c4 cl p4) ∧ Below (W2 w cap first ra rl rc ca cl cc).heap.size (W2 w cap first ra rl rc ca cl cc) w6 ∧ w4.heap.size + 1 ≤ w6.heap.size ∧ Below w.heap.size w w6 := by
  have hz := hg.size
  have hz1 := hW.size
  have hz2 := hB.size
  have hz3 : ((w4.alloc (ringObj cap first a4 rl q4 c4 cl p4)).alloc (.cells #[] 47)).heap.size = w4.heap.size + 2 := by simp
  refine ⟨(hg.block _ (by omega) (fun e => by have := hr _ e.symm; omega)).trans ((Below.heap_alloc _ _ _ (by simp)).trans (heap_alloc_new _ _)), ?_, by omega, ?_⟩
  · exact ((hW.alloc (by omega) _).alloc (by have h : (w4.alloc (ringObj cap first a4 rl q4 c4 cl p4)).heap.size = w4.heap.size + 1 := World.size_alloc _ _; omega) _).grown hg (by omega) (fun j e => by have := hr j e; omega)
  · exact ((hB.alloc (by omega) _).alloc (by have h : (w4.alloc (ringObj cap first a4 rl q4 c4 cl p4)).heap.size = w4.heap.size + 1 := World.size_alloc _ _; omega) _).grown hg (by omega) (fun j e => by have := hr j e; omega)
theorem leave_keep4 {w4 w6 : World} {o o' : Obj} {row : Option Nat} (hg : ((w4.alloc o).alloc o').grownBy w6 row) (hr : ∀ j, row = some j → w4.heap.size + 1 ≤ j) : Below w4.heap.size w4 w6 :=
  (((Below.refl _ _).alloc (Nat.le_refl _) _).alloc (by simp) _).grown hg (by simp; omega) (fun j e => by have := hr j e; omega)
theorem leave_keep2 {w w4 w6 w7 u : World} {o : Obj} {v : Value} {n : Nat} {xs : List Value} (h : w6.heap[w4.heap.size]? = some o ∧ Below u.heap.size u w6 ∧ w4.heap.size + 1 ≤ w6.heap.size ∧ Below w.heap.size w w6) (ho : w6.ownsRow (w4.heap.size + 1) 47 2 v n xs) (hg : w6.grownBy w7 v.ownBlock) (hu : u.heap.size ≤ w4.heap.size) (hw : w.heap.size ≤ w4.heap.size) :
    w7.heap[w4.heap.size]? = some o ∧ Below u.heap.size u w7 ∧ w4.heap.size + 1 ≤ w7.heap.size ∧ Below w.heap.size w w7 := by
  have hr : ∀ j, v.ownBlock = some j → w4.heap.size + 1 ≤ j := fun j e => (ho.lt j e).1
  have hz := hg.size
  exact ⟨(hg.block _ (by omega) (fun e => by have := hr _ e.symm; omega)).trans h.1, h.2.1.grown hg (by omega) (fun j e => by have := hr j e; omega), by omega, h.2.2.2.grown hg (by omega) (fun j e => by have := hr j e; omega)⟩
theorem leave_row {w7 : World} {base K m n : Nat} {v : Value} {xs ys : List Value} {cs : List (Int × Int)} (h : w7.ownsRow base 47 2 v (K + m) (xs ++ ys)) (hc : xs ++ ys = curCells cs) (hn : n = K + m) : w7.ownsRow base 47 2 v n (curCells cs) := by
  rw [← hc, hn]
  exact h
theorem leave_store {w w4 w7 u : World} {cap first : Int} {a4 c4 : Option Addr} {rl q4 cl p4 n : Nat} {v : Value} {ys : List Value} (h : w7.heap[w4.heap.size]? = some (ringObj cap first a4 rl q4 c4 cl p4) ∧ Below u.heap.size u w7 ∧ w4.heap.size + 1 ≤ w7.heap.size ∧ Below w.heap.size w w7) (ho : w7.ownsRow (w4.heap.size + 1) 47 2 v n ys) (x : Value) (h4 : Below w4.heap.size w4 w7) (hu : u.heap.size ≤ w4.heap.size) (hw : w.heap.size ≤ w4.heap.size) :
    Below w4.heap.size w4 (w7.setCell ⟨w4.heap.size, 3, none⟩ x) ∧ Below u.heap.size u (w7.setCell ⟨w4.heap.size, 3, none⟩ x) ∧ (w7.setCell ⟨w4.heap.size, 3, none⟩ x).ownsRow (w4.heap.size + 1) 47 2 v n ys ∧ Below w.heap.size w (w7.setCell ⟨w4.heap.size, 3, none⟩ x) ∧ w4.heap.size + 1 ≤ (w7.setCell ⟨w4.heap.size, 3, none⟩ x).heap.size :=
  ⟨h4.setCell (p := ⟨w4.heap.size, 3, none⟩) (Nat.le_refl _) _, h.2.1.setCell (p := ⟨w4.heap.size, 3, none⟩) hu _, ownsRow_setCell_below ho (a := ⟨w4.heap.size, 3, none⟩) (Nat.lt_succ_self _) _, h.2.2.2.setCell (p := ⟨w4.heap.size, 3, none⟩) hw _, by simpa [World.setCell] using h.2.2.1⟩
set_option maxRecDepth 100000 in
set_option maxHeartbeats 4000000 in
theorem spec_leave (recs : List ByteArray) (curs : List (Int × Int)) (g : Int) (w : World) (hi : RFit w ra rl rc ca cl cc recs curs) :
    Calls Tryz.prog 24 #[ringV cap first ra rl rc ca cl cc, .int .i64 g] w fun e w' => Answers w w' e (leaveR cap first recs curs g) := by
  obtain ⟨j0, hj0, hy0, hy1, hy2⟩ := info_parts info_cur
  have HI : Hid (RFit w ra rl rc ca cl cc recs curs) := hi
  have hcl : cl ≤ 1048576 := hi.cle
  have hrl : rl ≤ 1048576 := hi.rle
  have hccm : cc ≤ 2 ^ 63 - 1 := hi.ccm
  have HL : Hid (curs.length = cl) := hi.cur.curs.1
  have HRL : Hid (recs.length = rl) := hi.str.strs.1
  have HSR : Hid _ := fun w (hi : RFit w ra rl rc ca cl cc recs curs) => spec_ringRight cap first ra rl rc ca cl cc recs curs w hi.str.strs hi.cur.curs hi.rin.sz' hi.rle hi.cle
  clear hi
  have HB0 : Hid (Below w.heap.size w (W2 w cap first ra rl rc ca cl cc)) := w2_below ..
  obtain ⟨r, hr⟩ : ∃ r, leaveR cap first recs curs g = r := ⟨_, rfl⟩
  obtain ⟨R, hR⟩ : ∃ R, ringRightB cap first recs curs = R := ⟨_, rfl⟩
  have HF : Hid _ := hr
  unfold leaveR at HF
  rw [hR] at HSR HF
  have HRR : Hid (R = true → (0 ≤ first ∧ first ≤ 1000000) ∧ (∀ c ∈ curs, first ≤ c.2 ∧ c.2 ≤ first + (rl : Int)) ∧ rises curs) := fun h => by
    have h1 := right_first (hR.trans h)
    have h2 := right_curs (hR.trans h)
    rw [HRL.out] at h2
    exact ⟨h1.1, h2.1, h2.2⟩
  have HGO : Hid (leaveR cap first recs curs g = r) := hr
  clear hr hR
  go_enter Tryz.func24, Tryz.ntmps24
  go_wp2_with fail
  refine (HSR.out _ (HI.out.below HB0.out)).mono ?_
  rintro e w2 ⟨rfl, hb2⟩
  have HB2 : Hid (Below w.heap.size w w2) := below_tr HB0.out hb2
  have HW2 : Hid (Below (W2 w cap first ra rl rc ca cl cc).heap.size (W2 w cap first ra rl rc ca cl cc) w2) := hb2
  clear hb2 HSR
  have hc2 := fun o => HW2.out.cell (p := ⟨w.heap.size, o, none⟩) (by simp only [World.size_alloc]; omega)
  cases R
  · have hE : Hid (leaveR cap first recs curs g = RO.ill 1) := HGO.out.trans (HF.out.symm.trans (if_pos rfl))
    clear HF
    go_wp2_with fail
    refine (spec_ill 1 _).mono ?_
    rintro e w3 ⟨rfl, hb3⟩
    have HB3 : Hid (Below w.heap.size w w3) := below_tr HB2.out hb3
    have HW3 : Hid (Below (W2 w cap first ra rl rc ca cl cc).heap.size (W2 w cap first ra rl rc ca cl cc) w3) := below_tr HW2.out hb3
    clear hb3 hc2
    have hc3 := fun o => HW3.out.cell (p := ⟨w.heap.size + 1, o, none⟩) (by simp)
    have hf3 := fun o => HW3.out.frozen (p := ⟨w.heap.size + 1, o, none⟩) (by simp)
    go_wp2
    refine bodyPost_ret (v := ringIll 1) (by simp [results, Tryz.results24, go_sem, hc3]) rfl ?_
    rw [hE.out]
    exact ans_ill 1 HB3.out _ (by omega) _ _ _ _ _ _ _ _
  · have HRT := HRR.out rfl
    have HFT : Hid (0 ≤ first ∧ first ≤ 1000000) := HRT.1
    have HCR : Hid (∀ c ∈ curs, first ≤ c.2 ∧ c.2 ≤ first + (rl : Int)) := HRT.2.1
    have HRI : Hid (rises curs) := HRT.2.2
    clear HRT HRR
    have HF2 : Hid ((if findB g curs = false then RO.ill 6 else trimR cap first recs (curs.take (findK g curs) ++ curs.drop (findK g curs + 1))) = r) := by
      have h := HF.out
      rw [if_neg (by simp)] at h
      exact h
    clear HF
    have HCU : Hid _ := fun w hc => spec_cursor cap first ra rl rc ca cl cc g curs w hc HRI.out hcl
    have HKL : Hid (findB g curs = true → findK g curs < cl) := fun h => by rw [← HL.out]; exact find_lt h
    unfold curIx at HCU
    obtain ⟨K, hKe⟩ : ∃ K, findK g curs = K := ⟨_, rfl⟩
    obtain ⟨T, hTe⟩ : ∃ T, findB g curs = T := ⟨_, rfl⟩
    rw [hKe] at HCU HF2 HKL
    rw [hTe] at HCU HF2 HKL
    clear hKe hTe
    cases T
    · rw [if_neg (by simp)] at HCU
      have hE : Hid (leaveR cap first recs curs g = RO.ill 6) := HGO.out.trans (HF2.out.symm.trans (if_pos rfl))
      clear HF2
      go_wp2_with fail
      refine (HCU.out _ (curs_below HI.out.cur.curs HB2.out)).mono ?_
      rintro e w3 ⟨rfl, hb3⟩
      have HB3 : Hid (Below w.heap.size w w3) := below_tr HB2.out hb3
      have HW3 : Hid (Below (W2 w cap first ra rl rc ca cl cc).heap.size (W2 w cap first ra rl rc ca cl cc) w3) := below_tr HW2.out hb3
      clear hb3 hc2
      go_wp2_with fail
      refine (spec_ill 6 _).mono ?_
      rintro e w4 ⟨rfl, hb4⟩
      have HB4 : Hid (Below w.heap.size w w4) := below_tr HB3.out hb4
      have HW4 : Hid (Below (W2 w cap first ra rl rc ca cl cc).heap.size (W2 w cap first ra rl rc ca cl cc) w4) := below_tr HW3.out hb4
      clear hb4
      have hc4 := fun o => HW4.out.cell (p := ⟨w.heap.size + 1, o, none⟩) (by simp)
      have hf4 := fun o => HW4.out.frozen (p := ⟨w.heap.size + 1, o, none⟩) (by simp)
      go_wp2
      refine bodyPost_ret (v := ringIll 6) (by simp [results, Tryz.results24, go_sem, hc4]) rfl ?_
      rw [hE.out]
      exact ans_ill 6 HB4.out _ (by omega) _ _ _ _ _ _ _ _
    · rw [if_pos rfl] at HCU
      have hKc := HKL.out rfl
      obtain ⟨cs, hcs⟩ : ∃ cs, curs.take K ++ curs.drop (K + 1) = cs := ⟨_, rfl⟩
      have HCS : Hid (∀ c ∈ cs, first ≤ c.2 ∧ c.2 ≤ first + (rl : Int)) := fun c hc => by
        rw [← hcs] at hc
        rcases List.mem_append.1 hc with h | h
        · exact HCR.out c (List.mem_of_mem_take h)
        · exact HCR.out c (List.mem_of_mem_drop h)
      have hE : Hid (leaveR cap first recs curs g = trimR cap first recs cs) := HGO.out.trans (HF2.out.symm.trans (by rw [if_neg (by simp), hcs]))
      have HCC : Hid (curCells (curs.take K) ++ curCells (curs.drop (K + 1)) = curCells cs) := show _ = _ by rw [← hcs, curCells_append]
      have HIN := curLeast_in first (first + (rl : Int)) cs (by omega) HCS.out
      obtain ⟨P, hP⟩ : ∃ P : Nat, curLeast first cs = first + (P : Int) := ⟨(curLeast first cs - first).toNat, by omega⟩
      have hPl : P ≤ rl := by omega
      have HPE : Hid (curLeast first cs = first + (P : Int)) := hP
      clear HF2 hcs HIN hP
      obtain ⟨b, off, rfl⟩ : ∃ b off, ca = some ⟨b, off, none⟩ := by
        cases ca with
        | none => have := (HI.out.cur.nil rfl).1; omega
        | some x => exact ⟨x.block, x.off, by rw [← HI.out.cur.off x rfl]⟩
      have hcap := HI.out.cur.cap
      go_wp2_with fail
      refine (HCU.out _ (curs_below HI.out.cur.curs HB2.out)).mono ?_
      rintro e w3 ⟨rfl, hb3⟩
      have HB3 : Hid (Below w.heap.size w w3) := below_tr HB2.out hb3
      have HW3 : Hid (Below (W2 w cap first ra rl rc (some ⟨b, off, none⟩) cl cc).heap.size (W2 w cap first ra rl rc (some ⟨b, off, none⟩) cl cc) w3) := below_tr HW2.out hb3
      clear hb3 hc2 HCU
      have hc3 := fun o => HW3.out.cell (p := ⟨w.heap.size, o, none⟩) (by simp only [World.size_alloc]; omega)
      go_wp2_with fail
      refine (spec_copy recs curs _ (HI.out.str.below HB3.out) (HI.out.cur.below HB3.out) (by omega) (by omega)).mono ?_
      rintro e w4 ⟨a4, q4, c4, p4, rfl, ho4, hb4⟩
      have HB4 : Hid (Below w.heap.size w w4) := below_tr HB3.out hb4
      have HW4 : Hid (Below (W2 w cap first ra rl rc (some ⟨b, off, none⟩) cl cc).heap.size (W2 w cap first ra rl rc (some ⟨b, off, none⟩) cl cc) w4) := below_tr HW3.out hb4
      have HO4 : Hid (OwnRing w4 w3.heap.size a4 rl q4 c4 cl p4 (recs.map Value.string) (curCells curs)) := ho4
      clear hb4 ho4 hc3
      have HROW : Hid (((w4.alloc (ringObj cap first a4 rl q4 c4 cl p4)).alloc (.cells #[] 47)).ownsRow (w4.heap.size + 1) 47 2 (.slice (some ⟨w4.heap.size + 1, 0, none⟩) 0 0) 0 []) := by
        have h := trim_row (w4.alloc (ringObj cap first a4 rl q4 c4 cl p4)) 47 2
        rw [World.size_alloc] at h
        exact h
      have HBS : Hid (Below w.heap.size w ((w4.alloc (ringObj cap first a4 rl q4 c4 cl p4)).alloc (.cells #[] 47))) := (HB4.out.alloc HB4.out.size _).alloc (by have := HB4.out.size; simp; omega) _
      have hc4 := fun o => HW4.out.cell (p := ⟨w.heap.size, o, none⟩) (by simp only [World.size_alloc]; omega)
      have hz4 : w.heap.size < w4.heap.size := by have h := HW4.out.size; simp at h; omega
      by_cases hcK : cc = K + 1
      · have hclK : cl = K + 1 := by omega
        subst hclK
        subst hcK
        have HDR : Hid (curs.drop (K + 1) = []) := List.drop_eq_nil_of_le (by rw [HL.out]; exact Nat.le_refl _)
        go_wp2_with (first
          | (at_builtin; refine wpList_append_own_any (by rfl) _ _ 24 (by rfl) (w4.heap.size + 1) 47 j0 _ 2 16 Tryz.underlying24 hj0 hy0 hy1 hy2 (by rfl) (by omega) (.slice (some ⟨w4.heap.size + 1, 0, none⟩) 0 0) 0 [] (by rfl) HROW.out (some ⟨b, off, none⟩) K (K + 1) (curCells (curs.take K)) (by rfl) (by rw [curCells_length, List.length_take, HL.out]; omega) (fun e => by cases e) (curs_news (curs_take (curs_below HI.out.cur.curs HBS.out) (by omega))) (curCells_one _) (by unfold maxLen; omega) (by omega) (by simp) ?_; intro v1 w6 ho6 hg6; simp only [Nat.zero_add, List.nil_append] at ho6; obtain ⟨a6, c6, rfl⟩ := own_curV ho6; have hL6 := leave_keep (w := w) HW4.out HB4.out hg6 (fun j e => by simp [Value.ownBlock] at e; omega); have HL6 : Hid _ := hL6; have hc6 := fun o => hL6.2.1.cell (p := ⟨w.heap.size, o, none⟩) (by simp only [World.size_alloc]; omega); have HO6 : Hid (w6.ownsRow (w4.heap.size + 1) 47 2 (.slice a6 K c6) K (curCells (curs.take K))) := ho6; have H46 : Hid (Below w4.heap.size w4 w6) := leave_keep4 hg6 (fun j e => by simp [Value.ownBlock] at e; omega); clear hL6 ho6 hg6)
          | (at_builtin; refine wpList_append_own_any (by rfl) _ _ 24 (by rfl) (w4.heap.size + 1) 47 j0 _ 2 16 Tryz.underlying24 hj0 hy0 hy1 hy2 (by rfl) (by omega) (.slice a6 K c6) K (curCells (curs.take K)) (by rfl) HO6.out (some ⟨b, off, none⟩) 0 0 (curCells (curs.drop (K + 1))) (by rfl) (by rw [HDR.out]; rfl) (fun e => by cases e) (fun ad e j u h => by rw [HDR.out] at h; simp [curCells] at h) (curCells_one _) (by unfold maxLen; omega) (by omega) HL6.out.2.2.1 ?_; intro v7 w7 ho7 hg7; have hf7 := leave_row (n := K) ho7 HCC.out (by omega); obtain ⟨a7, c7, rfl⟩ := own_curV hf7; have hL7 := leave_keep2 HL6.out HO6.out hg7 HW4.out.size HB4.out.size; have hc7 := fun o => cell_of_block0 hL7.1 o; have hff7 := fun o => unfrozen_of_block0 hL7.1 o; have HL7 : Hid _ := hL7; have H47 : Hid (Below w4.heap.size w4 w7) := H46.out.grown hg7 (Nat.le_of_succ_le HL6.out.2.2.1) (fun j e => by have := (HO6.out.lt j e).1; omega); have HO7 : Hid (w7.ownsRow (w4.heap.size + 1) 47 2 (.slice a7 K c7) K (curCells cs)) := hf7; clear hL7 ho7 hg7 hf7))
        obtain ⟨a4', q4', e4, hS4⟩ := own_strIn HO4.out.1
        simp only [Value.slice.injEq] at e4
        obtain ⟨rfl, _, rfl⟩ := e4
        have hT8 := leave_store HL7.out HO7.out (.slice a7 K c7) H47.out HW4.out.size HB4.out.size
        obtain ⟨W8, hW8⟩ : ∃ W8, w7.setCell ⟨w4.heap.size, 3, none⟩ (.slice a7 K c7) = W8 := ⟨_, rfl⟩
        rw [hW8] at hT8 ⊢
        clear hW8
        have HT8 : Hid _ := hT8
        have HS8 : Hid (StrIn W8 a4 rl q4 recs) := hS4.below hT8.1
        have HMX : Hid (q4 ≤ maxLen) := own_capMax HO4.out.1
        clear hT8 hS4
        refine (spec_trim recs cs P _ HS8.out (own_curs HT8.out.2.2.1) (by omega) (by omega) HMX.out HFT.out HPE.out hPl).mono ?_
        rintro e w9 ⟨a9, q9, rfl, ho9, hb9⟩
        have HW9 : Hid (Below (W2 w cap first ra rl rc (some ⟨b, off, none⟩) (K + 1) (K + 1)).heap.size (W2 w cap first ra rl rc (some ⟨b, off, none⟩) (K + 1) (K + 1)) w9) := below_tr HT8.out.2.1 hb9
        have HB9 : Hid (Below w.heap.size w w9) := below_tr HT8.out.2.2.2.1 hb9
        have HO9 : Hid (OwnRing w9 (w4.heap.size + 1) a9 (rl - P) q9 a7 K c7 ((recs.drop P).map Value.string) (curCells cs)) := ⟨ho9.mono HT8.out.2.2.2.2, HT8.out.2.2.1.kept (below_grown hb9) (by cases (Value.slice a7 K c7).ownBlock <;> simp)⟩
        have hz9 : w.heap.size + 1 < w4.heap.size + 1 := by have h := HW4.out.size; simp at h; omega
        clear hb9 ho9 hc6 hc7 hff7
        have hc9 := fun o => HW9.out.cell (p := ⟨w.heap.size + 1, o, none⟩) (by simp)
        have hf9 := fun o => HW9.out.frozen (p := ⟨w.heap.size + 1, o, none⟩) (by simp)
        go_wp2
        refine bodyPost_ret (v := ringOutV cap (first + (P : Int)) a9 (rl - P) q9 a7 K c7 0 0 ⟨#[]⟩ 0) (by simp [results, Tryz.results24, go_sem, hc9]) rfl ?_
        rw [hE.out]
        exact ans_trim HPE.out HO9.out HB9.out (by omega) hz9 _ _ _ _ _ _ _ _
      · have hcK' : K + 1 < cc := by omega
        go_wp2_with (first
          | (at_builtin; refine wpList_append_own_any (by rfl) _ _ 24 (by rfl) (w4.heap.size + 1) 47 j0 _ 2 16 Tryz.underlying24 hj0 hy0 hy1 hy2 (by rfl) (by omega) (.slice (some ⟨w4.heap.size + 1, 0, none⟩) 0 0) 0 [] (by rfl) HROW.out (some ⟨b, off, none⟩) K cc (curCells (curs.take K)) (by rfl) (by rw [curCells_length, List.length_take, HL.out]; omega) (fun e => by cases e) (curs_news (curs_take (curs_below HI.out.cur.curs HBS.out) (by omega))) (curCells_one _) (by unfold maxLen; omega) (by omega) (by simp) ?_; intro v1 w6 ho6 hg6; simp only [Nat.zero_add, List.nil_append] at ho6; obtain ⟨a6, c6, rfl⟩ := own_curV ho6; have hL6 := leave_keep (w := w) HW4.out HB4.out hg6 (fun j e => by simp [Value.ownBlock] at e; omega); have HL6 : Hid _ := hL6; have hc6 := fun o => hL6.2.1.cell (p := ⟨w.heap.size, o, none⟩) (by simp only [World.size_alloc]; omega); have HO6 : Hid (w6.ownsRow (w4.heap.size + 1) 47 2 (.slice a6 K c6) K (curCells (curs.take K))) := ho6; have H46 : Hid (Below w4.heap.size w4 w6) := leave_keep4 hg6 (fun j e => by simp [Value.ownBlock] at e; omega); clear hL6 ho6 hg6)
          | (at_builtin; refine wpList_append_own_any (by rfl) _ _ 24 (by rfl) (w4.heap.size + 1) 47 j0 _ 2 16 Tryz.underlying24 hj0 hy0 hy1 hy2 (by rfl) (by omega) (.slice a6 K c6) K (curCells (curs.take K)) (by rfl) HO6.out (some ⟨b, off + (K + 1) * 2, none⟩) (cl - (K + 1)) (cc - (K + 1)) (curCells (curs.drop (K + 1))) (by rfl) (by rw [curCells_length, List.length_drop, HL.out]) (fun e => by cases e) (curs_news (curs_drop (curs_below HI.out.cur.curs HL6.out.2.2.2) (by omega))) (curCells_one _) (by unfold maxLen; omega) (by omega) HL6.out.2.2.1 ?_; intro v7 w7 ho7 hg7; have hf7 := leave_row (n := cl - 1) ho7 HCC.out (by omega); obtain ⟨a7, c7, rfl⟩ := own_curV hf7; have hL7 := leave_keep2 HL6.out HO6.out hg7 HW4.out.size HB4.out.size; have hc7 := fun o => cell_of_block0 hL7.1 o; have hff7 := fun o => unfrozen_of_block0 hL7.1 o; have HL7 : Hid _ := hL7; have H47 : Hid (Below w4.heap.size w4 w7) := H46.out.grown hg7 (Nat.le_of_succ_le HL6.out.2.2.1) (fun j e => by have := (HO6.out.lt j e).1; omega); have HO7 : Hid (w7.ownsRow (w4.heap.size + 1) 47 2 (.slice a7 (cl - 1) c7) (cl - 1) (curCells cs)) := hf7; clear hL7 ho7 hg7 hf7))
        obtain ⟨a4', q4', e4, hS4⟩ := own_strIn HO4.out.1
        simp only [Value.slice.injEq] at e4
        obtain ⟨rfl, _, rfl⟩ := e4
        have hT8 := leave_store HL7.out HO7.out (.slice a7 (cl - 1) c7) H47.out HW4.out.size HB4.out.size
        obtain ⟨W8, hW8⟩ : ∃ W8, w7.setCell ⟨w4.heap.size, 3, none⟩ (.slice a7 (cl - 1) c7) = W8 := ⟨_, rfl⟩
        rw [hW8] at hT8 ⊢
        clear hW8
        have HT8 : Hid _ := hT8
        have HS8 : Hid (StrIn W8 a4 rl q4 recs) := hS4.below hT8.1
        have HMX : Hid (q4 ≤ maxLen) := own_capMax HO4.out.1
        clear hT8 hS4
        refine (spec_trim recs cs P _ HS8.out (own_curs HT8.out.2.2.1) (by omega) (by omega) HMX.out HFT.out HPE.out hPl).mono ?_
        rintro e w9 ⟨a9, q9, rfl, ho9, hb9⟩
        have HW9 : Hid (Below (W2 w cap first ra rl rc (some ⟨b, off, none⟩) cl cc).heap.size (W2 w cap first ra rl rc (some ⟨b, off, none⟩) cl cc) w9) := below_tr HT8.out.2.1 hb9
        have HB9 : Hid (Below w.heap.size w w9) := below_tr HT8.out.2.2.2.1 hb9
        have HO9 : Hid (OwnRing w9 (w4.heap.size + 1) a9 (rl - P) q9 a7 (cl - 1) c7 ((recs.drop P).map Value.string) (curCells cs)) := ⟨ho9.mono HT8.out.2.2.2.2, HT8.out.2.2.1.kept (below_grown hb9) (by cases (Value.slice a7 (cl - 1) c7).ownBlock <;> simp)⟩
        have hz9 : w.heap.size + 1 < w4.heap.size + 1 := by have h := HW4.out.size; simp at h; omega
        clear hb9 ho9 hc6 hc7 hff7
        have hc9 := fun o => HW9.out.cell (p := ⟨w.heap.size + 1, o, none⟩) (by simp)
        have hf9 := fun o => HW9.out.frozen (p := ⟨w.heap.size + 1, o, none⟩) (by simp)
        go_wp2
        refine bodyPost_ret (v := ringOutV cap (first + (P : Int)) a9 (rl - P) q9 a7 (cl - 1) c7 0 0 ⟨#[]⟩ 0) (by simp [results, Tryz.results24, go_sem, hc9]) rfl ?_
        rw [hE.out]
        exact ans_trim HPE.out HO9.out HB9.out (by omega) hz9 _ _ _ _ _ _ _ _
end Go.Proofs.YtbbaghlmialaoaaGreatDoor
