import Derived.Test.YtbbaghlmialaoaaGreatDoorDrawsRing2
/- Contracts for the draws of chapter 4. -/
namespace Go.Proofs.YtbbaghlmialaoaaGreatDoor
open Go.RowKit
attribute [local go_sem ↓] Go.wp_at_zero Go.wp_at_succ
/-- A ring has been drawn: the answer's box, the ring's own, its lists, and the source. -/
structure DS (w wr : World) (g : Nat) (aa : Option Addr) (len cap : Nat) (X : Nat) (C F : Int) (a : Option Addr) (n q : Nat) (b : Option Addr) (m p : Nat) (rs : List ByteArray) (cs : List (Int × Int)) : Prop where
  res : wr.heap[w.heap.size]? = some (ringObj 0 0 none 0 0 none 0 0)
  box : wr.heap[X]? = some (ringObj C F a n q b m p)
  own : OwnRing wr (g + 1) a n q b m p (rs.map Value.string) (curCells cs)
  src : Src wr g aa len cap
  byt : Bytes w.heap.size wr aa len
  bel : Below w.heap.size w wr
  lt : g < X
  gl : w.heap.size < g
variable {w wr w1 : World} {g : Nat} {aa : Option Addr} {len cap X : Nat} {C F : Int} {a : Option Addr} {n q : Nat} {b : Option Addr} {m p : Nat} {rs : List ByteArray} {cs : List (Int × Int)}
theorem DS.draw (h : DS w wr g aa len cap X C F a n q b m p rs cs) (hs : Src w1 g aa len cap) (hg : wr.grownBy w1 (some g)) : DS w w1 g aa len cap X C F a n q b m p rs cs := by
  have hlt := h.lt
  have hgl := h.gl
  have hbx := blk_lt h.box
  have hk : ∀ i, i ≠ g → some i ≠ some g := fun i hi e' => hi (by simpa using e')
  exact ⟨(hg.block _ (by omega) (hk _ (by omega))).trans h.res, (hg.block _ hbx (hk _ (by omega))).trans h.box, ⟨own_draw h.own.1 hg (by omega), own_draw h.own.2 hg (by omega)⟩, hs, bytes_grown h.byt hg (by omega), h.bel.grown hg (by have := h.bel.size; omega) (fun k e' => by simp at e'; omega), h.lt, h.gl⟩
theorem DS.under (h : DS w wr g aa len cap X C F a n q b m p rs cs) (hb : Below wr.heap.size wr w1) : DS w w1 g aa len cap X C F a n q b m p rs cs := by
  have hlt := h.lt
  have hgl := h.gl
  have hbx := blk_lt h.box
  exact ⟨blk h.res hb, blk h.box hb, h.own.below hb, src_below h.src hb (by omega), bytes_below h.byt hb (by omega), below_tr h.bel hb, h.lt, h.gl⟩
/-- A ring that a law has drawn: it can be read, and has memory of its own. -/
def RW (w w' : World) (C F : Int) (a : Option Addr) (n q : Nat) (b : Option Addr) (m p : Nat) (rs : List ByteArray) (cs : List (Int × Int)) : Prop := OwnRing w' w.heap.size a n q b m p (rs.map Value.string) (curCells cs) ∧ Bnd C F rs cs ∧ Below w.heap.size w w'
theorem DS.ret (h : DS w wr g aa len cap X C F a n q b m p rs cs) (hn : Bnd C F rs cs) (v0 v1 v2 v3 : Value) : RW w (set4 wr w.heap.size v0 v1 v2 v3) C F a n q b m p rs cs := by
  have hlt := h.lt
  have hgl := h.gl
  exact ⟨⟨(own_set4 h.own.1 _ (by omega) _ _ _ _).mono (by omega), (own_set4 h.own.2 _ (by omega) _ _ _ _).mono (by omega)⟩, hn, below_set4 h.bel _ (Nat.le_refl _) _ _ _ _⟩
theorem DS.ret2 (h : DS w wr g aa len cap X C F a n q b m p rs cs) (hg : g = w.heap.size + 2) (hn : Bnd C F rs cs) (v0 v1 v2 v3 u0 u1 u2 : Value) : RW w ((((set4 wr w.heap.size v0 v1 v2 v3).setCell ⟨w.heap.size + 1, 0, none⟩ u0).setCell ⟨w.heap.size + 1, 1, none⟩ u1).setCell ⟨w.heap.size + 1, 2, none⟩ u2) C F a n q b m p rs cs := by
  have hs : ∀ {e size k : Nat} {v : Value} {xs : List Value}, wr.ownsRow (g + 1) e size v k xs → ((((set4 wr w.heap.size v0 v1 v2 v3).setCell ⟨w.heap.size + 1, 0, none⟩ u0).setCell ⟨w.heap.size + 1, 1, none⟩ u1).setCell ⟨w.heap.size + 1, 2, none⟩ u2).ownsRow (g + 1) e size v k xs := fun ho =>
    ownsRow_setCell_below (ownsRow_setCell_below (ownsRow_setCell_below (own_set4 ho _ (by omega) _ _ _ _) (a := ⟨w.heap.size + 1, 0, none⟩) (by simp; omega) _) (a := ⟨w.heap.size + 1, 1, none⟩) (by simp; omega) _) (a := ⟨w.heap.size + 1, 2, none⟩) (by simp; omega) _
  exact ⟨⟨(hs h.own.1).mono (by omega), (hs h.own.2).mono (by omega)⟩, hn, (((below_set4 h.bel _ (Nat.le_refl _) _ _ _ _).setCell (p := ⟨w.heap.size + 1, 0, none⟩) (by simp) _).setCell (p := ⟨w.heap.size + 1, 1, none⟩) (by simp) _).setCell (p := ⟨w.heap.size + 1, 2, none⟩) (by simp) _⟩
set_option maxRecDepth 100000 in
set_option maxHeartbeats 2000000 in
theorem draw_follow (w : World) (aa : Option Addr) (len cap : Nat) (hl : len ≤ 1048576) (hb : Bytes w.heap.size w aa len) :
    Calls Tryz.prog 10 #[.slice aa len cap] w fun x w' => ∃ C F a n q b m p rs cs st, x = .returned (.tuple #[ringV C F a n q b m p, .int .i64 st]) ∧ RW w w' C F a n q b m p rs cs := by
  have hal : Below w.heap.size w (w.alloc (ringObj 0 0 none 0 0 none 0 0)) := below_new _ _
  have hzz : (w.alloc (ringObj 0 0 none 0 0 none 0 0)).heap.size = w.heap.size + 1 := World.size_alloc _ _
  have HB : Hid (Bytes (w.alloc (ringObj 0 0 none 0 0 none 0 0)).heap.size (w.alloc (ringObj 0 0 none 0 0 none 0 0)) aa len) := by
    have h := bytes_below hb hal (Nat.le_refl _)
    intro i hi
    obtain ⟨b, off, e', hlt, rest⟩ := h i hi
    exact ⟨b, off, e', by omega, rest⟩
  have HY : Hid (Bytes w.heap.size (w.alloc (ringObj 0 0 none 0 0 none 0 0)) aa len) := bytes_below hb hal (Nat.le_refl _)
  have HL : Hid (Below w.heap.size w (w.alloc (ringObj 0 0 none 0 0 none 0 0))) := hal
  have HR : Hid ((w.alloc (ringObj 0 0 none 0 0 none 0 0)).heap[w.heap.size]? = some (ringObj 0 0 none 0 0 none 0 0)) := heap_alloc_new w _
  have HZ : Hid ((w.alloc (ringObj 0 0 none 0 0 none 0 0)).heap.size = w.heap.size + 1) := hzz
  clear hb hal hzz
  go_enter Tryz.func10, Tryz.ntmps10
  go_wp2_with fail
  refine (src_make _ aa len cap hl HB.out).mono ?_
  rintro x w1 ⟨rfl, hs1, hb1⟩
  have HR1 : Hid (w1.heap[w.heap.size]? = some (ringObj 0 0 none 0 0 none 0 0)) := blk HR.out hb1
  have HL1 : Hid (Below w.heap.size w w1) := below_tr HL.out hb1
  have HY1 : Hid (Bytes w.heap.size w1 aa len) := bytes_below HY.out hb1 (by rw [HZ.out]; omega)
  rw [HZ.out] at hs1 hb1
  have HS1 : Hid (Src w1 (w.heap.size + 1) aa len cap) := hs1
  have hg1 : w.heap.size + 1 < w1.heap.size := by
    obtain ⟨_, _, _, hh, _⟩ := hs1
    exact blk_lt hh
  rw [HZ.out]
  clear hs1 hb1 HB HY HL HR HZ
  go_wp2_with fail
  refine (src_ring (w.heap.size + 1) _ aa len cap w.heap.size hl HS1.out HY1.out (by omega) hg1).mono ?_
  rintro x w2 ⟨C, F, a, n, q, b, m, p, rs, cs, rfl, ho2, hN2, hs2, hd2⟩
  have HN : Hid (Bnd C F rs cs) := hN2
  have hF := hN2.f
  have hD2 : DS w (w2.alloc (ringObj C F a n q b m p)) (w.heap.size + 1) aa len cap w2.heap.size C F a n q b m p rs cs := by
    have hz := hd2.on.size
    have hk := fun i (h : i < w1.heap.size) (hne : i ≠ w.heap.size + 1) => hd2.on.block i h (fun e' => hne (by simpa using e'))
    refine DS.under (w1 := w2.alloc (ringObj C F a n q b m p)) (wr := w2.alloc (ringObj C F a n q b m p)) ⟨blk ((hk _ (by omega) (by omega)).trans HR1.out) (below_new _ _), heap_alloc_new _ _, OwnRing.below ⟨ho2.1.mono (by omega), ho2.2.mono (by omega)⟩ (below_new _ _), src_below hs2 (below_new _ _) (by omega), bytes_below (bytes_grown HY1.out hd2.on (by omega)) (below_new _ _) (by omega), below_tr (HL1.out.grown hd2.on (by omega) (fun k e' => by simp at e'; omega)) (below_new _ _), by omega, by omega⟩ (Below.refl _ _)
  obtain ⟨X, hX⟩ : ∃ X, w2.heap.size = X := ⟨_, rfl⟩
  rw [hX] at hD2
  have HD2 : Hid (DS w (w2.alloc (ringObj C F a n q b m p)) (w.heap.size + 1) aa len cap X C F a n q b m p rs cs) := hD2
  have HD2d : Hid (DS w (w2.alloc (ringObj C F a n q b m p)).drew (w.heap.size + 1) aa len cap X C F a n q b m p rs cs) := hD2.under ((Below.refl _ _).drew)
  clear ho2 hN2 hs2 hd2 hD2 HS1 HR1 HL1 HY1 hg1
  go_upto_region 3 with fail
  obtain ⟨W2, hW2⟩ : ∃ W2, w2.alloc (ringObj C F a n q b m p) = W2 := ⟨_, rfl⟩
  rw [hW2] at HD2 HD2d ⊢
  (try rw [hX])
  clear hW2 hX
  have HDd : Hid (DS w W2.drew (w.heap.size + 1) aa len cap X C F a n q b m p rs cs) := HD2d.out
  have hcX := fun o => cell_of_block0 HD2.out.box o
  have hcR := fun o => cell_of_block0 HD2.out.res o
  have hfR := fun o => unfrozen_of_block0 HD2.out.res o
  have hxl := HD2.out.lt
  have hneX : ¬ w.heap.size = X := by omega
  have hXne : ¬ X = w.heap.size := by omega
  first | (go_region_with (go_at_call 52; refine (src_n (w.heap.size + 1) 11 _ aa len cap w.heap.size (by omega) (by omega) hl HDd.out.src HDd.out.byt (by omega)).mono ?_; rintro x w4 ⟨r4, rfl, hr4, hs4, hg4⟩; have HD4 : Hid (DS w w4 (w.heap.size + 1) aa len cap X C F a n q b m p rs cs) := HDd.out.draw hs4 hg4; have hc4 := fun o => cell_of_block0 HD4.out.box o; have hd4 := fun o => cell_of_block0 HD4.out.res o; have hf4 := fun o => unfrozen_of_block0 HD4.out.res o; clear hs4 hg4)) | fail
  all_goals
    go_wp2
    exact bodyPost_ret (v := .tuple #[ringV C F a n q b m p, .int .i64 ((r4 : Int))]) (by simp [results, Tryz.results10, go_sem, hd4]) rfl ⟨C, F, a, n, q, b, m, p, rs, cs, (r4 : Int), rfl, HD4.out.ret HN.out _ _ _ _⟩
set_option maxRecDepth 100000 in
set_option maxHeartbeats 2000000 in
theorem draw_leave (w : World) (aa : Option Addr) (len cap : Nat) (hl : len ≤ 1048576) (hb : Bytes w.heap.size w aa len) :
    Calls Tryz.prog 13 #[.slice aa len cap] w fun x w' => ∃ C F a n q b m p rs cs st, x = .returned (.tuple #[ringV C F a n q b m p, .int .i64 st]) ∧ RW w w' C F a n q b m p rs cs := by
  have hal : Below w.heap.size w (w.alloc (ringObj 0 0 none 0 0 none 0 0)) := below_new _ _
  have hzz : (w.alloc (ringObj 0 0 none 0 0 none 0 0)).heap.size = w.heap.size + 1 := World.size_alloc _ _
  have HB : Hid (Bytes (w.alloc (ringObj 0 0 none 0 0 none 0 0)).heap.size (w.alloc (ringObj 0 0 none 0 0 none 0 0)) aa len) := by
    have h := bytes_below hb hal (Nat.le_refl _)
    intro i hi
    obtain ⟨b, off, e', hlt, rest⟩ := h i hi
    exact ⟨b, off, e', by omega, rest⟩
  have HY : Hid (Bytes w.heap.size (w.alloc (ringObj 0 0 none 0 0 none 0 0)) aa len) := bytes_below hb hal (Nat.le_refl _)
  have HL : Hid (Below w.heap.size w (w.alloc (ringObj 0 0 none 0 0 none 0 0))) := hal
  have HR : Hid ((w.alloc (ringObj 0 0 none 0 0 none 0 0)).heap[w.heap.size]? = some (ringObj 0 0 none 0 0 none 0 0)) := heap_alloc_new w _
  have HZ : Hid ((w.alloc (ringObj 0 0 none 0 0 none 0 0)).heap.size = w.heap.size + 1) := hzz
  clear hb hal hzz
  go_enter Tryz.func13, Tryz.ntmps13
  go_wp2_with fail
  refine (src_make _ aa len cap hl HB.out).mono ?_
  rintro x w1 ⟨rfl, hs1, hb1⟩
  have HR1 : Hid (w1.heap[w.heap.size]? = some (ringObj 0 0 none 0 0 none 0 0)) := blk HR.out hb1
  have HL1 : Hid (Below w.heap.size w w1) := below_tr HL.out hb1
  have HY1 : Hid (Bytes w.heap.size w1 aa len) := bytes_below HY.out hb1 (by rw [HZ.out]; omega)
  rw [HZ.out] at hs1 hb1
  have HS1 : Hid (Src w1 (w.heap.size + 1) aa len cap) := hs1
  have hg1 : w.heap.size + 1 < w1.heap.size := by
    obtain ⟨_, _, _, hh, _⟩ := hs1
    exact blk_lt hh
  rw [HZ.out]
  clear hs1 hb1 HB HY HL HR HZ
  go_wp2_with fail
  refine (src_ring (w.heap.size + 1) _ aa len cap w.heap.size hl HS1.out HY1.out (by omega) hg1).mono ?_
  rintro x w2 ⟨C, F, a, n, q, b, m, p, rs, cs, rfl, ho2, hN2, hs2, hd2⟩
  have HN : Hid (Bnd C F rs cs) := hN2
  have hF := hN2.f
  have hD2 : DS w (w2.alloc (ringObj C F a n q b m p)) (w.heap.size + 1) aa len cap w2.heap.size C F a n q b m p rs cs := by
    have hz := hd2.on.size
    have hk := fun i (h : i < w1.heap.size) (hne : i ≠ w.heap.size + 1) => hd2.on.block i h (fun e' => hne (by simpa using e'))
    refine DS.under (w1 := w2.alloc (ringObj C F a n q b m p)) (wr := w2.alloc (ringObj C F a n q b m p)) ⟨blk ((hk _ (by omega) (by omega)).trans HR1.out) (below_new _ _), heap_alloc_new _ _, OwnRing.below ⟨ho2.1.mono (by omega), ho2.2.mono (by omega)⟩ (below_new _ _), src_below hs2 (below_new _ _) (by omega), bytes_below (bytes_grown HY1.out hd2.on (by omega)) (below_new _ _) (by omega), below_tr (HL1.out.grown hd2.on (by omega) (fun k e' => by simp at e'; omega)) (below_new _ _), by omega, by omega⟩ (Below.refl _ _)
  obtain ⟨X, hX⟩ : ∃ X, w2.heap.size = X := ⟨_, rfl⟩
  rw [hX] at hD2
  have HD2 : Hid (DS w (w2.alloc (ringObj C F a n q b m p)) (w.heap.size + 1) aa len cap X C F a n q b m p rs cs) := hD2
  have HD2d : Hid (DS w (w2.alloc (ringObj C F a n q b m p)).drew (w.heap.size + 1) aa len cap X C F a n q b m p rs cs) := hD2.under ((Below.refl _ _).drew)
  clear ho2 hN2 hs2 hd2 hD2 HS1 HR1 HL1 HY1 hg1
  go_upto_region 3 with fail
  obtain ⟨W2, hW2⟩ : ∃ W2, w2.alloc (ringObj C F a n q b m p) = W2 := ⟨_, rfl⟩
  rw [hW2] at HD2 HD2d ⊢
  (try rw [hX])
  clear hW2 hX
  have HDd : Hid (DS w W2.drew (w.heap.size + 1) aa len cap X C F a n q b m p rs cs) := HD2d.out
  have hcX := fun o => cell_of_block0 HD2.out.box o
  have hcR := fun o => cell_of_block0 HD2.out.res o
  have hfR := fun o => unfrozen_of_block0 HD2.out.res o
  have hxl := HD2.out.lt
  have hneX : ¬ w.heap.size = X := by omega
  have hXne : ¬ X = w.heap.size := by omega
  first | (go_region_with (go_at_call 52; refine (src_n (w.heap.size + 1) 3 _ aa len cap w.heap.size (by omega) (by omega) hl HDd.out.src HDd.out.byt (by omega)).mono ?_; rintro x w4 ⟨r4, rfl, hr4, hs4, hg4⟩; have HD4 : Hid (DS w w4 (w.heap.size + 1) aa len cap X C F a n q b m p rs cs) := HDd.out.draw hs4 hg4; have hW4 : IntKind.i64.wrap (1 + (r4 : Int)) = 1 + (r4 : Int) := i64_wrap_in _ (by omega) (by omega); have hc4 := fun o => cell_of_block0 HD4.out.box o; have hd4 := fun o => cell_of_block0 HD4.out.res o; have hf4 := fun o => unfrozen_of_block0 HD4.out.res o; clear hs4 hg4)) | fail
  all_goals
    go_wp2
    exact bodyPost_ret (v := .tuple #[ringV C F a n q b m p, .int .i64 (1 + (r4 : Int))]) (by simp [results, Tryz.results13, go_sem, hd4]) rfl ⟨C, F, a, n, q, b, m, p, rs, cs, 1 + (r4 : Int), rfl, HD4.out.ret HN.out _ _ _ _⟩
set_option maxRecDepth 100000 in
set_option maxHeartbeats 2000000 in
theorem draw_ringAt (w : World) (aa : Option Addr) (len cap : Nat) (hl : len ≤ 1048576) (hb : Bytes w.heap.size w aa len) :
    Calls Tryz.prog 9 #[.slice aa len cap] w fun x w' => ∃ C F a n q b m p rs cs st, x = .returned (.tuple #[ringV C F a n q b m p, .int .i64 st]) ∧ RW w w' C F a n q b m p rs cs := by
  have hal : Below w.heap.size w (w.alloc (ringObj 0 0 none 0 0 none 0 0)) := below_new _ _
  have hzz : (w.alloc (ringObj 0 0 none 0 0 none 0 0)).heap.size = w.heap.size + 1 := World.size_alloc _ _
  have HB : Hid (Bytes (w.alloc (ringObj 0 0 none 0 0 none 0 0)).heap.size (w.alloc (ringObj 0 0 none 0 0 none 0 0)) aa len) := by
    have h := bytes_below hb hal (Nat.le_refl _)
    intro i hi
    obtain ⟨b, off, e', hlt, rest⟩ := h i hi
    exact ⟨b, off, e', by omega, rest⟩
  have HY : Hid (Bytes w.heap.size (w.alloc (ringObj 0 0 none 0 0 none 0 0)) aa len) := bytes_below hb hal (Nat.le_refl _)
  have HL : Hid (Below w.heap.size w (w.alloc (ringObj 0 0 none 0 0 none 0 0))) := hal
  have HR : Hid ((w.alloc (ringObj 0 0 none 0 0 none 0 0)).heap[w.heap.size]? = some (ringObj 0 0 none 0 0 none 0 0)) := heap_alloc_new w _
  have HZ : Hid ((w.alloc (ringObj 0 0 none 0 0 none 0 0)).heap.size = w.heap.size + 1) := hzz
  clear hb hal hzz
  go_enter Tryz.func9, Tryz.ntmps9
  go_wp2_with fail
  refine (src_make _ aa len cap hl HB.out).mono ?_
  rintro x w1 ⟨rfl, hs1, hb1⟩
  have HR1 : Hid (w1.heap[w.heap.size]? = some (ringObj 0 0 none 0 0 none 0 0)) := blk HR.out hb1
  have HL1 : Hid (Below w.heap.size w w1) := below_tr HL.out hb1
  have HY1 : Hid (Bytes w.heap.size w1 aa len) := bytes_below HY.out hb1 (by rw [HZ.out]; omega)
  rw [HZ.out] at hs1 hb1
  have HS1 : Hid (Src w1 (w.heap.size + 1) aa len cap) := hs1
  have hg1 : w.heap.size + 1 < w1.heap.size := by
    obtain ⟨_, _, _, hh, _⟩ := hs1
    exact blk_lt hh
  rw [HZ.out]
  clear hs1 hb1 HB HY HL HR HZ
  go_wp2_with fail
  refine (src_ring (w.heap.size + 1) _ aa len cap w.heap.size hl HS1.out HY1.out (by omega) hg1).mono ?_
  rintro x w2 ⟨C, F, a, n, q, b, m, p, rs, cs, rfl, ho2, hN2, hs2, hd2⟩
  have HN : Hid (Bnd C F rs cs) := hN2
  have hF := hN2.f
  have hD2 : DS w (w2.alloc (ringObj C F a n q b m p)) (w.heap.size + 1) aa len cap w2.heap.size C F a n q b m p rs cs := by
    have hz := hd2.on.size
    have hk := fun i (h : i < w1.heap.size) (hne : i ≠ w.heap.size + 1) => hd2.on.block i h (fun e' => hne (by simpa using e'))
    refine DS.under (w1 := w2.alloc (ringObj C F a n q b m p)) (wr := w2.alloc (ringObj C F a n q b m p)) ⟨blk ((hk _ (by omega) (by omega)).trans HR1.out) (below_new _ _), heap_alloc_new _ _, OwnRing.below ⟨ho2.1.mono (by omega), ho2.2.mono (by omega)⟩ (below_new _ _), src_below hs2 (below_new _ _) (by omega), bytes_below (bytes_grown HY1.out hd2.on (by omega)) (below_new _ _) (by omega), below_tr (HL1.out.grown hd2.on (by omega) (fun k e' => by simp at e'; omega)) (below_new _ _), by omega, by omega⟩ (Below.refl _ _)
  obtain ⟨X, hX⟩ : ∃ X, w2.heap.size = X := ⟨_, rfl⟩
  rw [hX] at hD2
  have HD2 : Hid (DS w (w2.alloc (ringObj C F a n q b m p)) (w.heap.size + 1) aa len cap X C F a n q b m p rs cs) := hD2
  have HD2d : Hid (DS w (w2.alloc (ringObj C F a n q b m p)).drew (w.heap.size + 1) aa len cap X C F a n q b m p rs cs) := hD2.under ((Below.refl _ _).drew)
  clear ho2 hN2 hs2 hd2 hD2 HS1 HR1 HL1 HY1 hg1
  go_upto_region 3 with fail
  obtain ⟨W2, hW2⟩ : ∃ W2, w2.alloc (ringObj C F a n q b m p) = W2 := ⟨_, rfl⟩
  rw [hW2] at HD2 HD2d ⊢
  (try rw [hX])
  clear hW2 hX
  have HDd : Hid (DS w W2.drew (w.heap.size + 1) aa len cap X C F a n q b m p rs cs) := HD2d.out
  have hcX := fun o => cell_of_block0 HD2.out.box o
  have hcR := fun o => cell_of_block0 HD2.out.res o
  have hfR := fun o => unfrozen_of_block0 HD2.out.res o
  have hxl := HD2.out.lt
  have hneX : ¬ w.heap.size = X := by omega
  have hXne : ¬ X = w.heap.size := by omega
  first | (go_region_with (go_at_call 52; refine (src_n (w.heap.size + 1) 9 _ aa len cap w.heap.size (by omega) (by omega) hl HDd.out.src HDd.out.byt (by omega)).mono ?_; rintro x w4 ⟨r4, rfl, hr4, hs4, hg4⟩; have HD4 : Hid (DS w w4 (w.heap.size + 1) aa len cap X C F a n q b m p rs cs) := HDd.out.draw hs4 hg4; have hW4 : IntKind.i64.wrap (F + (r4 : Int)) = F + (r4 : Int) := i64_wrap_in _ (by omega) (by omega); have hW5 : IntKind.i64.wrap (F + (r4 : Int) - 1) = F + (r4 : Int) - 1 := i64_wrap_in _ (by omega) (by omega); have hc4 := fun o => cell_of_block0 HD4.out.box o; have hd4 := fun o => cell_of_block0 HD4.out.res o; have hf4 := fun o => unfrozen_of_block0 HD4.out.res o; clear hs4 hg4)) | fail
  all_goals
    go_wp2
    exact bodyPost_ret (v := .tuple #[ringV C F a n q b m p, .int .i64 (F + (r4 : Int) - 1)]) (by simp [results, Tryz.results9, go_sem, hd4]) rfl ⟨C, F, a, n, q, b, m, p, rs, cs, F + (r4 : Int) - 1, rfl, HD4.out.ret HN.out _ _ _ _⟩
set_option maxRecDepth 100000 in
set_option maxHeartbeats 2000000 in
theorem draw_move (w : World) (aa : Option Addr) (len cap : Nat) (hl : len ≤ 1048576) (hb : Bytes w.heap.size w aa len) :
    Calls Tryz.prog 11 #[.slice aa len cap] w fun x w' => ∃ C F a n q b m p rs cs st st2, x = .returned (.tuple #[ringV C F a n q b m p, .int .i64 st, .int .i64 st2]) ∧ RW w w' C F a n q b m p rs cs := by
  have hal : Below w.heap.size w (w.alloc (ringObj 0 0 none 0 0 none 0 0)) := below_new _ _
  have hzz : (w.alloc (ringObj 0 0 none 0 0 none 0 0)).heap.size = w.heap.size + 1 := World.size_alloc _ _
  have HB : Hid (Bytes (w.alloc (ringObj 0 0 none 0 0 none 0 0)).heap.size (w.alloc (ringObj 0 0 none 0 0 none 0 0)) aa len) := by
    have h := bytes_below hb hal (Nat.le_refl _)
    intro i hi
    obtain ⟨b, off, e', hlt, rest⟩ := h i hi
    exact ⟨b, off, e', by omega, rest⟩
  have HY : Hid (Bytes w.heap.size (w.alloc (ringObj 0 0 none 0 0 none 0 0)) aa len) := bytes_below hb hal (Nat.le_refl _)
  have HL : Hid (Below w.heap.size w (w.alloc (ringObj 0 0 none 0 0 none 0 0))) := hal
  have HR : Hid ((w.alloc (ringObj 0 0 none 0 0 none 0 0)).heap[w.heap.size]? = some (ringObj 0 0 none 0 0 none 0 0)) := heap_alloc_new w _
  have HZ : Hid ((w.alloc (ringObj 0 0 none 0 0 none 0 0)).heap.size = w.heap.size + 1) := hzz
  clear hb hal hzz
  go_enter Tryz.func11, Tryz.ntmps11
  go_wp2_with fail
  refine (src_make _ aa len cap hl HB.out).mono ?_
  rintro x w1 ⟨rfl, hs1, hb1⟩
  have HR1 : Hid (w1.heap[w.heap.size]? = some (ringObj 0 0 none 0 0 none 0 0)) := blk HR.out hb1
  have HL1 : Hid (Below w.heap.size w w1) := below_tr HL.out hb1
  have HY1 : Hid (Bytes w.heap.size w1 aa len) := bytes_below HY.out hb1 (by rw [HZ.out]; omega)
  rw [HZ.out] at hs1 hb1
  have HS1 : Hid (Src w1 (w.heap.size + 1) aa len cap) := hs1
  have hg1 : w.heap.size + 1 < w1.heap.size := by
    obtain ⟨_, _, _, hh, _⟩ := hs1
    exact blk_lt hh
  rw [HZ.out]
  clear hs1 hb1 HB HY HL HR HZ
  go_wp2_with fail
  refine (src_ring (w.heap.size + 1) _ aa len cap w.heap.size hl HS1.out HY1.out (by omega) hg1).mono ?_
  rintro x w2 ⟨C, F, a, n, q, b, m, p, rs, cs, rfl, ho2, hN2, hs2, hd2⟩
  have HN : Hid (Bnd C F rs cs) := hN2
  have hF := hN2.f
  have hD2 : DS w (w2.alloc (ringObj C F a n q b m p)) (w.heap.size + 1) aa len cap w2.heap.size C F a n q b m p rs cs := by
    have hz := hd2.on.size
    have hk := fun i (h : i < w1.heap.size) (hne : i ≠ w.heap.size + 1) => hd2.on.block i h (fun e' => hne (by simpa using e'))
    refine DS.under (w1 := w2.alloc (ringObj C F a n q b m p)) (wr := w2.alloc (ringObj C F a n q b m p)) ⟨blk ((hk _ (by omega) (by omega)).trans HR1.out) (below_new _ _), heap_alloc_new _ _, OwnRing.below ⟨ho2.1.mono (by omega), ho2.2.mono (by omega)⟩ (below_new _ _), src_below hs2 (below_new _ _) (by omega), bytes_below (bytes_grown HY1.out hd2.on (by omega)) (below_new _ _) (by omega), below_tr (HL1.out.grown hd2.on (by omega) (fun k e' => by simp at e'; omega)) (below_new _ _), by omega, by omega⟩ (Below.refl _ _)
  obtain ⟨X, hX⟩ : ∃ X, w2.heap.size = X := ⟨_, rfl⟩
  rw [hX] at hD2
  have HD2 : Hid (DS w (w2.alloc (ringObj C F a n q b m p)) (w.heap.size + 1) aa len cap X C F a n q b m p rs cs) := hD2
  have HD2d : Hid (DS w (w2.alloc (ringObj C F a n q b m p)).drew (w.heap.size + 1) aa len cap X C F a n q b m p rs cs) := hD2.under ((Below.refl _ _).drew)
  clear ho2 hN2 hs2 hd2 hD2 HS1 HR1 HL1 HY1 hg1
  go_wp2_with fail
  obtain ⟨W2, hW2⟩ : ∃ W2, w2.alloc (ringObj C F a n q b m p) = W2 := ⟨_, rfl⟩
  rw [hW2] at HD2 HD2d ⊢
  (try rw [hX])
  clear hW2 hX HD2d
  refine (src_n (w.heap.size + 1) 3 _ aa len cap w.heap.size (by omega) (by omega) hl HD2.out.src HD2.out.byt (by omega)).mono ?_
  rintro x w3 ⟨r3, rfl, hr3, hs3, hg3⟩
  have HD3 : Hid (DS w w3 (w.heap.size + 1) aa len cap X C F a n q b m p rs cs) := HD2.out.draw hs3 hg3
  have HDd : Hid (DS w w3.drew (w.heap.size + 1) aa len cap X C F a n q b m p rs cs) := HD3.out.under ((Below.refl _ _).drew)
  have hW3 : IntKind.i64.wrap (1 + (r3 : Int)) = 1 + (r3 : Int) := i64_wrap_in _ (by omega) (by omega)
  clear hs3 hg3 HD2
  have hcX := fun o => cell_of_block0 HD3.out.box o
  have hcR := fun o => cell_of_block0 HD3.out.res o
  have hfR := fun o => unfrozen_of_block0 HD3.out.res o
  have hxl := HD3.out.lt
  have hneX : ¬ w.heap.size = X := by omega
  have hXne : ¬ X = w.heap.size := by omega
  go_upto_region 4 with fail
  first | (go_region_with (go_at_call 52; refine (src_n (w.heap.size + 1) 7 _ aa len cap w.heap.size (by omega) (by omega) hl HDd.out.src HDd.out.byt (by omega)).mono ?_; rintro x w4 ⟨r4, rfl, hr4, hs4, hg4⟩; have HD4 : Hid (DS w w4 (w.heap.size + 1) aa len cap X C F a n q b m p rs cs) := HDd.out.draw hs4 hg4; have hW4 : IntKind.i64.wrap (F + (r4 : Int)) = F + (r4 : Int) := i64_wrap_in _ (by omega) (by omega); have hW5 : IntKind.i64.wrap (F + (r4 : Int) - 1) = F + (r4 : Int) - 1 := i64_wrap_in _ (by omega) (by omega); have hc4 := fun o => cell_of_block0 HD4.out.box o; have hd4 := fun o => cell_of_block0 HD4.out.res o; have hf4 := fun o => unfrozen_of_block0 HD4.out.res o; clear hs4 hg4)) | fail
  all_goals
    go_wp2
    exact bodyPost_ret (v := .tuple #[ringV C F a n q b m p, .int .i64 (1 + (r3 : Int)), .int .i64 (F + (r4 : Int) - 1)]) (by simp [results, Tryz.results11, go_sem, hd4]) rfl ⟨C, F, a, n, q, b, m, p, rs, cs, 1 + (r3 : Int), F + (r4 : Int) - 1, rfl, HD4.out.ret HN.out _ _ _ _⟩
theorem draw_ringNew (w : World) (aa : Option Addr) (len cap : Nat) (hl : len ≤ 1048576) (hb : Bytes w.heap.size w aa len) :
    Calls Tryz.prog 14 #[.slice aa len cap] w fun x w' => ∃ st : Int, x = .returned (.int .i64 st) ∧ Below w.heap.size w w' := by
  have HB : Hid (Bytes w.heap.size w aa len) := hb
  clear hb
  go_enter Tryz.func14, Tryz.ntmps14
  go_wp2_with fail
  refine (src_make _ aa len cap hl HB.out).mono ?_
  rintro x w1 ⟨rfl, hs1, hb1⟩
  have HL1 : Hid (Below w.heap.size w w1) := hb1
  have HS1 : Hid _ := hs1
  have HY1 : Hid (Bytes w.heap.size w1 aa len) := bytes_below HB.out hb1 (Nat.le_refl _)
  clear hs1 hb1
  go_wp2_with fail
  refine (src_n w.heap.size 18 _ aa len cap w.heap.size (by omega) (by omega) hl HS1.out HY1.out (Nat.le_refl _)).mono ?_
  rintro x w2 ⟨r2, rfl, hr2, hs2, hg2⟩
  have HL2 : Hid (Below w.heap.size w w2) := HL1.out.grown hg2 HL1.out.size (fun k e' => by simp at e'; omega)
  clear hs2 hg2
  go_wp2
  go_ret
  exact ⟨_, rfl, HL2.out⟩
set_option maxRecDepth 100000 in
set_option maxHeartbeats 2000000 in
theorem draw_ringEnd (w : World) (aa : Option Addr) (len cap : Nat) (hl : len ≤ 1048576) (hb : Bytes w.heap.size w aa len) :
    Calls Tryz.prog 15 #[.slice aa len cap] w fun x w' => ∃ C F a n q b m p rs cs, x = .returned (ringV C F a n q b m p) ∧ RW w w' C F a n q b m p rs cs := by
  have hal : Below w.heap.size w (w.alloc (ringObj 0 0 none 0 0 none 0 0)) := below_new _ _
  have hzz : (w.alloc (ringObj 0 0 none 0 0 none 0 0)).heap.size = w.heap.size + 1 := World.size_alloc _ _
  have HB : Hid (Bytes (w.alloc (ringObj 0 0 none 0 0 none 0 0)).heap.size (w.alloc (ringObj 0 0 none 0 0 none 0 0)) aa len) := by
    have h := bytes_below hb hal (Nat.le_refl _)
    intro i hi
    obtain ⟨b, off, e', hlt, rest⟩ := h i hi
    exact ⟨b, off, e', by omega, rest⟩
  have HY : Hid (Bytes w.heap.size (w.alloc (ringObj 0 0 none 0 0 none 0 0)) aa len) := bytes_below hb hal (Nat.le_refl _)
  have HL : Hid (Below w.heap.size w (w.alloc (ringObj 0 0 none 0 0 none 0 0))) := hal
  have HR : Hid ((w.alloc (ringObj 0 0 none 0 0 none 0 0)).heap[w.heap.size]? = some (ringObj 0 0 none 0 0 none 0 0)) := heap_alloc_new w _
  have HZ : Hid ((w.alloc (ringObj 0 0 none 0 0 none 0 0)).heap.size = w.heap.size + 1) := hzz
  clear hb hal hzz
  go_enter Tryz.func15, Tryz.ntmps15
  go_wp2_with fail
  refine (src_make _ aa len cap hl HB.out).mono ?_
  rintro x w1 ⟨rfl, hs1, hb1⟩
  have HR1 : Hid (w1.heap[w.heap.size]? = some (ringObj 0 0 none 0 0 none 0 0)) := blk HR.out hb1
  have HL1 : Hid (Below w.heap.size w w1) := below_tr HL.out hb1
  have HY1 : Hid (Bytes w.heap.size w1 aa len) := bytes_below HY.out hb1 (by rw [HZ.out]; omega)
  rw [HZ.out] at hs1 hb1
  have HS1 : Hid (Src w1 (w.heap.size + 1) aa len cap) := hs1
  have hg1 : w.heap.size + 1 < w1.heap.size := by
    obtain ⟨_, _, _, hh, _⟩ := hs1
    exact blk_lt hh
  rw [HZ.out]
  clear hs1 hb1 HB HY HL HR HZ
  go_wp2_with fail
  refine (src_ring (w.heap.size + 1) _ aa len cap w.heap.size hl HS1.out HY1.out (by omega) hg1).mono ?_
  rintro x w2 ⟨C, F, a, n, q, b, m, p, rs, cs, rfl, ho2, hN2, hs2, hd2⟩
  have hz := hd2.on.size
  have HN : Hid (Bnd C F rs cs) := hN2
  have HR2 : Hid (w2.heap[w.heap.size]? = some (ringObj 0 0 none 0 0 none 0 0)) := (hd2.on.block _ (by omega) (fun e' => by simp at e')).trans HR1.out
  have HL2 : Hid (Below w.heap.size w w2) := HL1.out.grown hd2.on (by omega) (fun k e' => by simp at e'; omega)
  have HO2 : Hid (OwnRing w2 (w.heap.size + 1) a n q b m p (rs.map Value.string) (curCells cs)) := ⟨ho2.1.mono (by omega), ho2.2.mono (by omega)⟩
  have hd4 := fun o => cell_of_block0 HR2.out o
  have hf4 := fun o => unfrozen_of_block0 HR2.out o
  clear ho2 hN2 hs2 hd2 HS1 HR1 HL1 HY1 hg1 hz
  go_wp2
  exact bodyPost_ret (v := ringV C F a n q b m p) (by simp [results, Tryz.results15, go_sem, hd4]) rfl ⟨C, F, a, n, q, b, m, p, rs, cs, rfl, ⟨(own_set4 HO2.out.1 _ (Nat.lt_succ_self _) _ _ _ _).mono (Nat.le_succ _), (own_set4 HO2.out.2 _ (Nat.lt_succ_self _) _ _ _ _).mono (Nat.le_succ _)⟩, HN.out, below_set4 HL2.out _ (Nat.le_refl _) _ _ _ _⟩
set_option maxRecDepth 100000 in
set_option maxHeartbeats 4000000 in
theorem draw_ringPut (w : World) (aa : Option Addr) (len cap : Nat) (hl : len ≤ 1048576) (hb : Bytes w.heap.size w aa len) :
    Calls Tryz.prog 7 #[.slice aa len cap] w fun x w' => ∃ C F a n q b m p rs cs k t d, x = .returned (.tuple #[ringV C F a n q b m p, recV k t d]) ∧ RW w w' C F a n q b m p rs cs ∧ recDrawn k t d := by
  have hal : Below w.heap.size w ((w.alloc (ringObj 0 0 none 0 0 none 0 0)).alloc (recObj 0 0 ⟨#[]⟩)) := ((Below.refl _ _).alloc (Nat.le_refl _) _).alloc (by simp) _
  have hzz : ((w.alloc (ringObj 0 0 none 0 0 none 0 0)).alloc (recObj 0 0 ⟨#[]⟩)).heap.size = w.heap.size + 2 := by simp
  have HB : Hid (Bytes ((w.alloc (ringObj 0 0 none 0 0 none 0 0)).alloc (recObj 0 0 ⟨#[]⟩)).heap.size ((w.alloc (ringObj 0 0 none 0 0 none 0 0)).alloc (recObj 0 0 ⟨#[]⟩)) aa len) := by
    have h := bytes_below hb hal (Nat.le_refl _)
    intro i hi
    obtain ⟨b, off, e', hlt, rest⟩ := h i hi
    exact ⟨b, off, e', by omega, rest⟩
  have HY : Hid (Bytes w.heap.size ((w.alloc (ringObj 0 0 none 0 0 none 0 0)).alloc (recObj 0 0 ⟨#[]⟩)) aa len) := bytes_below hb hal (Nat.le_refl _)
  have HL : Hid (Below w.heap.size w ((w.alloc (ringObj 0 0 none 0 0 none 0 0)).alloc (recObj 0 0 ⟨#[]⟩))) := hal
  have HR : Hid (((w.alloc (ringObj 0 0 none 0 0 none 0 0)).alloc (recObj 0 0 ⟨#[]⟩)).heap[w.heap.size]? = some (ringObj 0 0 none 0 0 none 0 0)) := (Below.heap_alloc _ _ _ (by simp)).trans (heap_alloc_new _ _)
  have HQ : Hid (((w.alloc (ringObj 0 0 none 0 0 none 0 0)).alloc (recObj 0 0 ⟨#[]⟩)).heap[w.heap.size + 1]? = some (recObj 0 0 ⟨#[]⟩)) := by
    have h := heap_alloc_new (w.alloc (ringObj 0 0 none 0 0 none 0 0)) (recObj 0 0 ⟨#[]⟩)
    rwa [World.size_alloc] at h
  have HZ : Hid (((w.alloc (ringObj 0 0 none 0 0 none 0 0)).alloc (recObj 0 0 ⟨#[]⟩)).heap.size = w.heap.size + 2) := hzz
  clear hb hal hzz
  go_enter Tryz.func7, Tryz.ntmps7
  go_wp2_with fail
  refine (src_make _ aa len cap hl HB.out).mono ?_
  rintro x w1 ⟨rfl, hs1, hb1⟩
  have HR1 : Hid (w1.heap[w.heap.size]? = some (ringObj 0 0 none 0 0 none 0 0)) := blk HR.out hb1
  have HQ1 : Hid (w1.heap[w.heap.size + 1]? = some (recObj 0 0 ⟨#[]⟩)) := blk HQ.out hb1
  have HL1 : Hid (Below w.heap.size w w1) := below_tr HL.out hb1
  have HY1 : Hid (Bytes w.heap.size w1 aa len) := bytes_below HY.out hb1 (by rw [HZ.out]; omega)
  rw [HZ.out] at hs1 hb1
  have HS1 : Hid (Src w1 (w.heap.size + 2) aa len cap) := hs1
  have hg1 : w.heap.size + 2 < w1.heap.size := by
    obtain ⟨_, _, _, hh, _⟩ := hs1
    exact blk_lt hh
  rw [HZ.out]
  clear hs1 hb1 HB HY HL HR HZ HQ
  go_wp2_with fail
  refine (src_ring (w.heap.size + 2) _ aa len cap w.heap.size hl HS1.out HY1.out (by omega) hg1).mono ?_
  rintro x w2 ⟨C, F, a, n, q, b, m, p, rs, cs, rfl, ho2, hN2, hs2, hd2⟩
  have HN : Hid (Bnd C F rs cs) := hN2
  have hz := hd2.on.size
  have hk := fun i (h : i < w1.heap.size) (hne : i ≠ w.heap.size + 2) => hd2.on.block i h (fun e' => hne (by simpa using e'))
  have HQ2 : Hid ((w2.alloc (ringObj C F a n q b m p)).heap[w.heap.size + 1]? = some (recObj 0 0 ⟨#[]⟩)) := blk ((hk _ (by omega) (by omega)).trans HQ1.out) (below_new _ _)
  have hD2 : DS w (w2.alloc (ringObj C F a n q b m p)) (w.heap.size + 2) aa len cap w2.heap.size C F a n q b m p rs cs :=
    ⟨blk ((hk _ (by omega) (by omega)).trans HR1.out) (below_new _ _), heap_alloc_new _ _, OwnRing.below ⟨ho2.1.mono (by omega), ho2.2.mono (by omega)⟩ (below_new _ _), src_below hs2 (below_new _ _) (by omega), bytes_below (bytes_grown HY1.out hd2.on (by omega)) (below_new _ _) (by omega), below_tr (HL1.out.grown hd2.on (by omega) (fun k e' => by simp at e'; omega)) (below_new _ _), by omega, by omega⟩
  obtain ⟨X, hX⟩ : ∃ X, w2.heap.size = X := ⟨_, rfl⟩
  rw [hX] at hD2
  have HD2 : Hid (DS w (w2.alloc (ringObj C F a n q b m p)) (w.heap.size + 2) aa len cap X C F a n q b m p rs cs) := hD2
  clear ho2 hN2 hs2 hd2 hD2 HS1 HR1 HQ1 HL1 HY1 hg1 hz hk
  go_upto_region 3 with fail
  obtain ⟨W2, hW2⟩ : ∃ W2, w2.alloc (ringObj C F a n q b m p) = W2 := ⟨_, rfl⟩
  rw [hW2] at HD2 HQ2 ⊢
  (try rw [hX])
  clear hW2 hX
  have HDd : Hid (DS w W2.drew (w.heap.size + 2) aa len cap X C F a n q b m p rs cs) := HD2.out.under ((Below.refl _ _).drew)
  have hcX := fun o => cell_of_block0 HD2.out.box o
  have hxl := HD2.out.lt
  have hgl : w.heap.size + 2 < W2.drew.heap.size := Nat.lt_trans HD2.out.lt (blk_lt HD2.out.box)
  have hneX : ¬ w.heap.size = X := by omega
  have hXne : ¬ X = w.heap.size := by omega
  first | (go_region_with (go_at_call 44; refine (src_recG (w.heap.size + 2) _ aa len cap w.heap.size hl HDd.out.src HDd.out.byt (by omega) hgl).mono ?_; rintro x w4 ⟨k, t, d, rfl, hd, hs4, hg4⟩; have HD4 : Hid (DS w w4 (w.heap.size + 2) aa len cap X C F a n q b m p rs cs) := HDd.out.draw hs4 hg4.on; have HK : Hid (recDrawn k t d) := hd; have hQ4 : w4.heap[w.heap.size + 1]? = some (recObj 0 0 ⟨#[]⟩) := (hg4.on.block _ (blk_lt (blk HQ2.out ((Below.refl _ _).drew))) (fun e' => by simp at e')).trans HQ2.out; have hc4 := fun o => cell_of_block0 HD4.out.box o; have hd4 := fun o => cell_of_block0 HD4.out.res o; have hf4 := fun o => unfrozen_of_block0 HD4.out.res o; have hq4 := fun o => cell_of_block0 hQ4 o; have hr4 := fun o => unfrozen_of_block0 hQ4 o; clear hs4 hg4 hd hQ4)) | fail
  all_goals
    go_wp2
    exact bodyPost_ret (v := .tuple #[ringV C F a n q b m p, recV k t d]) (by simp [results, Tryz.results7, go_sem, hd4, hq4]) rfl ⟨C, F, a, n, q, b, m, p, rs, cs, k, t, d, rfl, HD4.out.ret2 rfl HN.out _ _ _ _ _ _ _, HK.out⟩
end Go.Proofs.YtbbaghlmialaoaaGreatDoor
/- The laws' own helpers on rings that are drawn: that two of the same make are held equal. -/
namespace Go.Proofs.YtbbaghlmialaoaaGreatDoor
open Go.RowKit
attribute [local go_sem ↓] Go.wp_at_zero Go.wp_at_succ
set_option maxRecDepth 100000 in
set_option maxHeartbeats 4000000 in
theorem law_lwRing (C F : Int) (a : Option Addr) (n q : Nat) (b : Option Addr) (m p : Nat) (a' : Option Addr) (q' : Nat) (b' : Option Addr) (p' : Nat) (rs : List ByteArray) (cs : List (Int × Int)) (w : World) (h1 : Strs w a n rs) (h1' : Strs w a' n rs) (h2 : Curs w b m cs) (h2' : Curs w b' m cs) (hn : n ≤ 2097152) (hm : m ≤ 2097152) :
    Calls Tryz.prog 58 #[ringV C F a n q b m p, ringV C F a' n q' b' m p'] w fun e w' => e = .returned (.bool true) ∧ Below w.heap.size w w' := by
  have H1 : Hid _ := h1
  have H1' : Hid _ := h1'
  have H2 : Hid _ := h2
  have H2' : Hid _ := h2'
  clear h1 h1' h2 h2'
  have e1 : (C != C) = false := by simp
  have e2 : (F != F) = false := by simp
  have e3 : ((n : Int) != (n : Int)) = false := by simp
  have e4 : ((m : Int) != (m : Int)) = false := by simp
  have hB0 : Hid (Below w.heap.size w ((w.alloc (ringObj C F a n q b m p)).alloc (ringObj C F a' n q' b' m p'))) := ((Below.refl _ _).alloc (Nat.le_refl _) _).alloc (by simp) _
  have HT0 : Hid (((w.alloc (ringObj C F a n q b m p)).alloc (ringObj C F a' n q' b' m p')).heap[w.heap.size]? = some (ringObj C F a n q b m p)) := (Below.heap_alloc _ _ _ (by simp)).trans (heap_alloc_new _ _)
  have HT1 : Hid (((w.alloc (ringObj C F a n q b m p)).alloc (ringObj C F a' n q' b' m p')).heap[w.heap.size + 1]? = some (ringObj C F a' n q' b' m p')) := by
    have h := heap_alloc_new (w.alloc (ringObj C F a n q b m p)) (ringObj C F a' n q' b' m p')
    rwa [World.size_alloc] at h
  go_enter Tryz.func58, Tryz.ntmps58
  go_wp2
  go_loopw [5] (fun i wr => ∃ k : Nat, k ≤ n ∧ i = .int .i64 k ∧ Hid (Below w.heap.size w wr ∧ wr.heap[w.heap.size]? = some (ringObj C F a n q b m p) ∧ wr.heap[w.heap.size + 1]? = some (ringObj C F a' n q' b' m p'))) (fun i _ => n - (intOf i).toNat)
  case atStart => exact ⟨0, by omega, rfl, hB0.out, HT0.out, HT1.out⟩
  case round =>
    obtain ⟨k, hk, rfl, hw⟩ := hrel
    have c0 := fun o => cell_of_block0 hw.out.2.1 o
    have c1 := fun o => cell_of_block0 hw.out.2.2 o
    by_cases hlt : k < n
    · obtain ⟨b1, o1, V, rfl, e1, g1⟩ := strs_at H1.out hw.out.1 hlt
      obtain ⟨b2, o2, V', rfl, e2, g2⟩ := strs_at H1'.out hw.out.1 hlt
      obtain rfl : V = V' := Option.some.inj (e1.symm.trans e2)
      clear e1 e2
      go_wp2
      go_region
      all_goals go_wp2
      all_goals exact ⟨⟨k + 1, by omega, by go_num, hw.out.1.drew, hw.out.2.1, hw.out.2.2⟩, by simp [intOf]; omega⟩
    · go_wp2
      clear hlt c0 c1 hk
      go_loopw [6] (fun i wr => ∃ k : Nat, k ≤ m ∧ i = .int .i64 k ∧ Hid (Below w.heap.size w wr ∧ wr.heap[w.heap.size]? = some (ringObj C F a n q b m p) ∧ wr.heap[w.heap.size + 1]? = some (ringObj C F a' n q' b' m p'))) (fun i _ => m - (intOf i).toNat)
      case atStart => exact ⟨0, by omega, rfl, hw.out⟩
      case round =>
        obtain ⟨k, hk, rfl, hw⟩ := hrel
        have c0 := fun o => cell_of_block0 hw.out.2.1 o
        have c1 := fun o => cell_of_block0 hw.out.2.2 o
        by_cases hlt : k < m
        · obtain ⟨b1, o1, G, A, rfl, e1, g1, g1'⟩ := curs_at H2.out hw.out.1 hlt
          obtain ⟨b2, o2, G', A', rfl, e2, g2, g2'⟩ := curs_at H2'.out hw.out.1 hlt
          obtain ⟨rfl, rfl⟩ : G = G' ∧ A = A' := by have := Option.some.inj (e1.symm.trans e2); simpa using this
          clear e1 e2
          go_wp2
          go_region
          all_goals go_wp2
          all_goals exact ⟨⟨k + 1, by omega, by go_num, hw.out.1.drew, hw.out.2.1, hw.out.2.2⟩, by simp [intOf]; omega⟩
        · go_wp2
          go_ret
          exact ⟨rfl, hw.out.1⟩
set_option maxRecDepth 100000 in
set_option maxHeartbeats 4000000 in
theorem law_lwRings (r : RO) (a : Option Addr) (q : Nat) (b : Option Addr) (p : Nat) (a' : Option Addr) (q' : Nat) (b' : Option Addr) (p' : Nat) (w : World) (h1 : Strs w a r.recs.length r.recs) (h1' : Strs w a' r.recs.length r.recs) (h2 : Curs w b r.curs.length r.curs) (h2' : Curs w b' r.curs.length r.curs) (hn : r.recs.length ≤ 1048576) (hm : r.curs.length ≤ 1048576) (hs : ∀ s ∈ r.recs, s.size ≤ maxLen) (hg : r.c = 0 → ringRightB r.cap r.first r.recs r.curs = true) :
    Calls Tryz.prog 16 #[ringOutV r.cap r.first a r.recs.length q b r.curs.length p r.k r.t r.d r.c, ringOutV r.cap r.first a' r.recs.length q' b' r.curs.length p' r.k r.t r.d r.c] w fun e w' => e = .returned (.bool true) ∧ Below w.heap.size w w' := by
  obtain ⟨C, F, rs, cs, k, t, d, c⟩ := r
  simp only at h1 h1' h2 h2' hn hm hs hg ⊢
  obtain ⟨n, hn'⟩ : ∃ n, rs.length = n := ⟨_, rfl⟩
  obtain ⟨m, hm'⟩ : ∃ m, cs.length = m := ⟨_, rfl⟩
  rw [hn'] at h1 h1' hn ⊢
  rw [hm'] at h2 h2' hm ⊢
  have HL : Hid (∀ u, Below w.heap.size w u → Calls Tryz.prog 58 #[ringV C F a n q b m p, ringV C F a' n q' b' m p'] u fun e w' => e = .returned (.bool true) ∧ Below u.heap.size u w') := fun u hb => law_lwRing C F a n q b m p a' q' b' p' rs cs u (strs_below h1 hb) (strs_below h1' hb) (curs_below h2 hb) (curs_below h2' hb) (by omega) (by omega)
  have HRR : Hid (∀ u, Below w.heap.size w u → Calls Tryz.prog 32 #[ringV C F a n q b m p] u fun e w' => e = .returned (.bool (ringRightB C F rs cs)) ∧ Below u.heap.size u w') := fun u hb => spec_ringRight C F a n q b m p rs cs u (strs_below h1 hb) (curs_below h2 hb) hs hn hm
  clear h1 h1' h2 h2' hs hn hm hn' hm'
  have hB0 : Hid (Below w.heap.size w ((w.alloc (outObj C F a n q b m p k t d c)).alloc (outObj C F a' n q' b' m p' k t d c))) := ((Below.refl _ _).alloc (Nat.le_refl _) _).alloc (by simp) _
  have HT0 : Hid (((w.alloc (outObj C F a n q b m p k t d c)).alloc (outObj C F a' n q' b' m p' k t d c)).heap[w.heap.size]? = some (outObj C F a n q b m p k t d c)) := (Below.heap_alloc _ _ _ (by simp)).trans (heap_alloc_new _ _)
  have e1 : (c == c) = true := by simp
  have e2 : (k == k) = true := by simp
  have e3 : (t == t) = true := by simp
  by_cases hc : c = 0
  · subst hc
    rw [hg rfl] at HRR
    clear hg
    go_enter Tryz.func16, Tryz.ntmps16
    go_wp2_with fail
    refine (HL.out _ hB0.out).mono ?_
    rintro e w1 ⟨rfl, hb1⟩
    have HB1 : Hid (Below w.heap.size w w1) := below_tr hB0.out hb1
    have c0 := fun o => cell_of_block0 (blk HT0.out hb1) o
    clear hb1
    go_wp2_with fail
    refine (HRR.out _ HB1.out).mono ?_
    rintro e w2 ⟨rfl, hb2⟩
    have HB2 : Hid (Below w.heap.size w w2) := below_tr HB1.out hb2
    clear hb2
    go_wp2
    go_ret
    exact ⟨rfl, HB2.out⟩
  · have hcn : (c != 0) = true := by simp [hc]
    clear hg hc HRR
    go_enter Tryz.func16, Tryz.ntmps16
    go_wp2_with fail
    refine (HL.out _ hB0.out).mono ?_
    rintro e w1 ⟨rfl, hb1⟩
    have HB1 : Hid (Below w.heap.size w w1) := below_tr hB0.out hb1
    have c0 := fun o => cell_of_block0 (blk HT0.out hb1) o
    clear hb1
    go_wp2
    go_ret
    exact ⟨rfl, HB1.out⟩
end Go.Proofs.YtbbaghlmialaoaaGreatDoor
