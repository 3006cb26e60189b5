import Derived.Test.YtahccighonddaaaGreatDoorLawTxn1
import Derived.Test.YtahccighonddaaaGreatDoorAppendMore
namespace Go.Proofs.YtahccighonddaaaGreatDoor
open Go.RowKit
variable {p e s u : Int} {ra la : Option Addr} {rl rc ll lc : Nat}
structure TnFit (w : World) (ra : Option Addr) (rl rc : Nat) (la : Option Addr) (ll lc : Nat) (rs ls : List Int) : Prop where
  rs : NumIn w ra rl rc rs
  ls : NumIn w la ll lc ls
  rle : rl ≤ 1048576
  lle : ll ≤ 1048576
  rcm : rc ≤ maxLen
  lcm : lc ≤ maxLen
theorem TnFit.below {w w' : World} {rs ls : List Int} (h : TnFit w ra rl rc la ll lc rs ls) (hb : Below w.heap.size w w') : TnFit w' ra rl rc la ll lc rs ls := ⟨h.rs.below hb, h.ls.below hb, h.rle, h.lle, h.rcm, h.lcm⟩
theorem TnFit.tin {w : World} {rs ls : List Int} (h : TnFit w ra rl rc la ll lc rs ls) : TIn w ra rl la ll rs ls := ⟨h.rs.nums, h.ls.nums, h.rle, h.lle⟩
def TAns (w w' : World) (x : Ending) (p e s u : Int) (rs ls : List Int) : Prop :=
  ∃ a q b m, x = .returned (txnV p e s u a rs.length q b ls.length m) ∧ OwnTxn w' w.heap.size a rs.length q b ls.length m (numCells rs) (numCells ls) ∧ Below w.heap.size w w'
structure T3 (w wr : World) (o0 o1 o2 : Obj) : Prop where
  b0 : wr.heap[w.heap.size]? = some o0
  b1 : wr.heap[w.heap.size + 1]? = some o1
  b2 : wr.heap[w.heap.size + 1 + 1]? = some o2
  below : Below w.heap.size w wr
  size : w.heap.size + 3 ≤ wr.heap.size
theorem t3_start (w : World) (o0 o1 o2 : Obj) : T3 w (((w.alloc o0).alloc o1).alloc o2) o0 o1 o2 := by
  refine ⟨?_, ?_, ?_, (((Below.refl _ _).alloc (Nat.le_refl _) _).alloc (by simp) _).alloc (by simp; omega) _, by simp⟩
  · exact (Below.heap_alloc _ _ _ (by simp; omega)).trans ((Below.heap_alloc _ _ _ (by simp)).trans (heap_alloc_new _ _))
  · have h := heap_alloc_new (w.alloc o0) o1
    rw [World.size_alloc] at h
    exact (Below.heap_alloc _ _ _ (by simp)).trans h
  · have h := heap_alloc_new ((w.alloc o0).alloc o1) o2
    rw [World.size_alloc, World.size_alloc] at h
    exact h
theorem T3.grown {w wr wx : World} {o0 o1 o2 : Obj} {row : Option Nat} (h : T3 w wr o0 o1 o2) (hg : wr.grownBy wx row) (hr : ∀ j, row = some j → w.heap.size + 3 ≤ j) : T3 w wx o0 o1 o2 := by
  have hz := h.size
  have hne : ∀ i, i < w.heap.size + 3 → some i ≠ row := fun i hi e => by have := hr i e.symm; omega
  exact ⟨(hg.block _ (by omega) (hne _ (by omega))).trans h.b0, (hg.block _ (by omega) (hne _ (by omega))).trans h.b1, (hg.block _ (by omega) (hne _ (by omega))).trans h.b2, h.below.grown hg (by omega) (fun j e => by have := hr j e; omega), Nat.le_trans h.size hg.size⟩
theorem T3.set2 {w wr : World} {o0 o1 : Obj} {C : Array Value} {t : TypeId} (h : T3 w wr o0 o1 (.cells C t (0, 0))) (k : Nat) (v : Value) : T3 w (wr.setCell ⟨w.heap.size + 1 + 1, k, none⟩ v) o0 o1 (.cells (C.setIfInBounds k v) t (0, 0)) :=
  ⟨(Below.heap_setCell wr ⟨w.heap.size + 1 + 1, k, none⟩ _ w.heap.size (show w.heap.size ≠ w.heap.size + 1 + 1 by omega)).trans h.b0, (Below.heap_setCell wr ⟨w.heap.size + 1 + 1, k, none⟩ _ (w.heap.size + 1) (show w.heap.size + 1 ≠ w.heap.size + 1 + 1 by omega)).trans h.b1, heap_setCell_same wr (w.heap.size + 1 + 1) k _ _ _ h.b2, h.below.setCell (p := ⟨w.heap.size + 1 + 1, k, none⟩) (show w.heap.size ≤ w.heap.size + 1 + 1 by omega) _, by simpa [World.setCell] using h.size⟩
theorem t3_end {w w2 w4 : World} {o0 o1 o2 : Obj} {a b : Option Addr} {n q m r base : Nat} {xs ys : List Value} {v v5 v0 v1 v2' v3 v4 v6 : Value} (h : T3 w w4 o0 o1 o2) (hx : w2.ownsRow base 2 1 (.slice a n q) n xs) (hb : w.heap.size + 3 ≤ base)
    (hy : w4.ownsRow w2.heap.size 2 1 (.slice b m r) m ys) (hz : w.heap.size + 3 ≤ w2.heap.size) (hg : (w2.setCell ⟨w.heap.size + 1 + 1, 4, none⟩ v).grownBy w4 none) :
    OwnTxn (tset6 (w4.setCell ⟨w.heap.size + 1 + 1, 5, none⟩ v5) (w.heap.size + 1) v0 v1 v2' v3 v4 v6) w.heap.size a n q b m r xs ys ∧ Below w.heap.size w (tset6 (w4.setCell ⟨w.heap.size + 1 + 1, 5, none⟩ v5) (w.heap.size + 1) v0 v1 v2' v3 v4 v6) := by
  have k0 : w.heap.size + 1 + 1 < base := by omega
  have k1 : w.heap.size + 1 < base := by omega
  have k2 : w.heap.size + 1 + 1 < w2.heap.size := by omega
  have k3 : w.heap.size + 1 < w2.heap.size := by omega
  have hx1 := (ownsRow_setCell_below hx (a := ⟨w.heap.size + 1 + 1, 4, none⟩) k0 v).kept hg (by cases (Value.slice a n q).ownBlock <;> simp)
  refine ⟨⟨?_, ?_, ?_⟩, ?_⟩
  · exact (own_set6 (ownsRow_setCell_below hx1 (a := ⟨w.heap.size + 1 + 1, 5, none⟩) k0 _) (w.heap.size + 1) k1 _ _ _ _ _ _).mono (by omega)
  · exact (own_set6 (ownsRow_setCell_below hy (a := ⟨w.heap.size + 1 + 1, 5, none⟩) k2 _) (w.heap.size + 1) k3 _ _ _ _ _ _).mono (by omega)
  · intro g h1 h2
    have := (hx.lt g h1).2
    have := (hy.lt g h2).1
    omega
  · exact below_set6 (h.below.setCell (p := ⟨w.heap.size + 1 + 1, 5, none⟩) (show w.heap.size ≤ w.heap.size + 1 + 1 by omega) _) (w.heap.size + 1) (show w.heap.size ≤ w.heap.size + 1 by omega) _ _ _ _ _ _
set_option maxRecDepth 100000 in
set_option maxHeartbeats 4000000 in
theorem impl_copyTxn (rs ls : List Int) (w : World) (hi : NumIn w ra rl rc rs) (hj : NumIn w la ll lc ls) (hrl : rl ≤ 1048577) (hll : ll ≤ 1048577) :
    Calls Tryz.prog 140 #[txnV p e s u ra rl rc la ll lc] w fun x w' => ∃ a q b m, x = .returned (txnV p e s u a rl q b ll m) ∧ OwnTxn w' w.heap.size a rl q b ll m (numCells rs) (numCells ls) ∧ Below w.heap.size w w' := by
  obtain ⟨i0, hi0, hz0, hz1, hz2⟩ := info_parts info_i64
  have HR : Hid (NumIn w ra rl rc rs) := hi
  have HC : Hid (NumIn w la ll lc ls) := hj
  have HL : Hid (rs.length = rl) := hi.nums.1
  have HLC : Hid (ls.length = ll) := hj.nums.1
  clear hi hj
  go_enter Tryz.func140, Tryz.ntmps140
  have HS0 : Hid (T3 w (((w.alloc (txnObj p e s u ra rl rc la ll lc)).alloc (txnObj 0 0 0 0 none 0 0 none 0 0)).alloc (txnObj p e s u ra rl rc la ll lc)) (txnObj p e s u ra rl rc la ll lc) (txnObj 0 0 0 0 none 0 0 none 0 0) (txnObj p e s u ra rl rc la ll lc)) := t3_start ..
  go_wp2_with (first
    | (at_builtin; refine wpList_append_own_any (by rfl) _ _ 23 (by rfl) (w.heap.size + 3) 2 i0 _ 1 8 Tryz.underlying23 hi0 hz0 hz1 hz2 (by rfl) (by omega) (.slice none 0 0) 0 [] (by rfl) (World.ownsRow_nil _ _ _ _) ra rl rc (numCells rs) (by rfl) (by rw [List.length_map, HL.out]; omega) HR.out.nil (nums_news (nums_below HR.out.nums HS0.out.below)) (numCells_one _) (by unfold maxLen; omega) (by omega) HS0.out.size ?_; intro v1 w2 ho2 hg2; simp only [Nat.zero_add, List.nil_append] at ho2; obtain ⟨a1, c1, rfl⟩ := own_numV ho2; have hs2 := HS0.out.grown hg2 (fun j e => by simp [Value.ownBlock] at e); have g0 := fun o => tcell hs2.b0 o; have g2 := fun o => tcell hs2.b2 o; have f2 := fun o => tunfrozen hs2.b2 o; have HS3 : Hid (T3 w (w2.setCell ⟨w.heap.size + 1 + 1, 4, none⟩ (.slice a1 rl c1)) (txnObj p e s u ra rl rc la ll lc) (txnObj 0 0 0 0 none 0 0 none 0 0) (txnObj p e s u a1 rl c1 la ll lc)) := hs2.set2 4 (.slice a1 rl c1); have HO2 : Hid (w2.ownsRow (w.heap.size + 3) 2 1 (.slice a1 rl c1) rl (numCells rs)) := ho2; have hz2' : Hid (w.heap.size + 3 ≤ w2.heap.size) := hs2.size; have hz3' : w.heap.size + 1 + 1 < w2.heap.size := (by have := hz2'.out; omega); clear hs2 hg2 ho2)
    | (at_builtin; refine wpList_append_own_any (by rfl) _ _ 23 (by rfl) w2.heap.size 2 i0 _ 1 8 Tryz.underlying23 hi0 hz0 hz1 hz2 (by rfl) (by omega) (.slice none 0 0) 0 [] (by rfl) (World.ownsRow_nil _ _ _ _) la ll lc (numCells ls) (by rfl) (by rw [List.length_map, HLC.out]; omega) HC.out.nil (nums_news (nums_below HC.out.nums HS3.out.below)) (numCells_one _) (by unfold maxLen; omega) (by omega) (by simp [World.setCell]) ?_; intro v3 w4 ho4 hg4; simp only [Nat.zero_add, List.nil_append] at ho4; obtain ⟨a3, c3, rfl⟩ := own_numV ho4; have hs4 := HS3.out.grown hg4 (fun j e => by simp [Value.ownBlock] at e); have g4 := fun o => tcell hs4.b2 o; have f4 := fun o => tunfrozen hs4.b2 o; have g5 := fun o => tcell hs4.b1 o; have f5 := fun o => tunfrozen hs4.b1 o; have HF : Hid _ := t3_end (v5 := .slice a3 ll c3) (v0 := .int .i64 p) (v1 := .int .i64 e) (v2' := .int .i64 s) (v3 := .int .i64 u) (v4 := .slice a1 rl c1) (v6 := .slice a3 ll c3) hs4 HO2.out (Nat.le_refl _) ho4 hz2'.out hg4; clear hs4 hg4 ho4 g0 g2 f2))
  obtain ⟨hx, hy⟩ := HF.out
  exact bodyPost_ret (v := txnV p e s u a1 rl c1 a3 ll c3) (by simp [results, Tryz.results140, go_sem, g5]) rfl ⟨a1, c1, a3, c3, rfl, hx, hy⟩
end Go.Proofs.YtahccighonddaaaGreatDoor
namespace Go.Proofs.YtahccighonddaaaGreatDoor
open Go.RowKit
variable {p e s u : Int} {ra la : Option Addr} {rl rc ll lc : Nat}
structure T2 (w wr : World) (o0 o1 : Obj) : Prop where
  b0 : wr.heap[w.heap.size]? = some o0
  b1 : wr.heap[w.heap.size + 1]? = some o1
  below : Below w.heap.size w wr
  size : w.heap.size + 2 ≤ wr.heap.size
theorem t2_start (w : World) (o0 o1 : Obj) : T2 w ((w.alloc o0).alloc o1) o0 o1 := by
  refine ⟨(Below.heap_alloc _ _ _ (by simp)).trans (heap_alloc_new _ _), ?_, ((Below.refl _ _).alloc (Nat.le_refl _) _).alloc (by simp) _, by simp⟩
  have h := heap_alloc_new (w.alloc o0) o1
  rwa [World.size_alloc] at h
theorem T2.grown {w wr wx : World} {o0 o1 : Obj} {row : Option Nat} (h : T2 w wr o0 o1) (hg : wr.grownBy wx row) (hr : ∀ j, row = some j → w.heap.size + 2 ≤ j) : T2 w wx o0 o1 := by
  have hz := h.size
  have hne : ∀ i, i < w.heap.size + 2 → some i ≠ row := fun i hi e => by have := hr i e.symm; omega
  exact ⟨(hg.block _ (by omega) (hne _ (by omega))).trans h.b0, (hg.block _ (by omega) (hne _ (by omega))).trans h.b1, h.below.grown hg (by omega) (fun j e => by have := hr j e; omega), Nat.le_trans h.size hg.size⟩
theorem T2.under {w wr wx : World} {o0 o1 : Obj} (h : T2 w wr o0 o1) (hb : Below wr.heap.size wr wx) : T2 w wx o0 o1 := h.grown (tbelow_grown hb) (fun j e => by cases e)
theorem T2.alloc {w wr : World} {o0 o1 : Obj} (h : T2 w wr o0 o1) (o : Obj) : T2 w (wr.alloc o) o0 o1 := h.under (tbelow_new _ _)
theorem T2.set0 {w wr : World} {o1 : Obj} {C : Array Value} {t : TypeId} (h : T2 w wr (.cells C t (0, 0)) o1) (k : Nat) (v : Value) : T2 w (wr.setCell ⟨w.heap.size, k, none⟩ v) (.cells (C.setIfInBounds k v) t (0, 0)) o1 :=
  ⟨heap_setCell_same wr w.heap.size k _ _ _ h.b0, (Below.heap_setCell wr ⟨w.heap.size, k, none⟩ _ (w.heap.size + 1) (show w.heap.size + 1 ≠ w.heap.size by omega)).trans h.b1, h.below.setCell (p := ⟨w.heap.size, k, none⟩) (Nat.le_refl _) _, by simpa [World.setCell] using h.size⟩
theorem T2.cell0 {w wr : World} {o1 : Obj} {C : Array Value} {t : TypeId} (h : T2 w wr (.cells C t (0, 0)) o1) (o : Nat) : wr.cell? ⟨w.heap.size, o, none⟩ = C[o]? := tcell h.b0 o
theorem T2.cell1 {w wr : World} {o0 : Obj} {C : Array Value} {t : TypeId} (h : T2 w wr o0 (.cells C t (0, 0))) (o : Nat) : wr.cell? ⟨w.heap.size + 1, o, none⟩ = C[o]? := tcell h.b1 o
theorem T2.free0 {w wr : World} {o1 : Obj} {C : Array Value} {t : TypeId} (h : T2 w wr (.cells C t (0, 0)) o1) (o : Nat) : wr.frozen? ⟨w.heap.size, o, none⟩ = false := tunfrozen h.b0 o
theorem T2.free1 {w wr : World} {o0 : Obj} {C : Array Value} {t : TypeId} (h : T2 w wr o0 (.cells C t (0, 0))) (o : Nat) : wr.frozen? ⟨w.heap.size + 1, o, none⟩ = false := tunfrozen h.b1 o
theorem t_row (w : World) (t : TypeId) (size : Nat) : (w.alloc (.cells #[] t)).ownsRow w.heap.size t size (.slice (some ⟨w.heap.size, 0, none⟩) 0 0) 0 [] := by
  have h := World.ownsRow_lit (base := w.heap.size) (e := t) (size := size) w #[] 0 (by simp) (by unfold maxLen; omega) (by simp)
  simpa using h
theorem t_row2 (w : World) (o o' : Obj) (t : TypeId) (size : Nat) : (((w.alloc o).alloc o').alloc (.cells #[] t)).ownsRow (w.heap.size + 2) t size (.slice (some ⟨w.heap.size + 1 + 1, 0, none⟩) 0 0) 0 [] := by
  have h := t_row ((w.alloc o).alloc o') t size
  simpa using h
theorem t_rowS (w : World) (q : Addr) (v : Value) (t : TypeId) (size : Nat) : ((w.setCell q v).alloc (.cells #[] t)).ownsRow w.heap.size t size (.slice (some ⟨w.heap.size, 0, none⟩) 0 0) 0 [] := by
  have h := t_row (w.setCell q v) t size
  simpa [World.setCell] using h
theorem t2_end {w w2 w4 : World} {o0 o1 o : Obj} {a b : Option Addr} {n q m r : Nat} {xs ys : List Value} {v v5 v0 v1 v2' v3 v4 v6 : Value} (h : T2 w w4 o0 o1) (hx : w2.ownsRow (w.heap.size + 2) 2 1 (.slice a n q) n xs)
    (hy : w4.ownsRow w2.heap.size 2 1 (.slice b m r) m ys) (hz : w.heap.size + 2 ≤ w2.heap.size) (hg : ((w2.setCell ⟨w.heap.size, 4, none⟩ v).alloc o).grownBy w4 (Value.slice (some ⟨w2.heap.size, 0, none⟩) 0 0).ownBlock) :
    OwnTxn (tset6 (w4.setCell ⟨w.heap.size, 5, none⟩ v5) (w.heap.size + 1) v0 v1 v2' v3 v4 v6) w.heap.size a n q b m r xs ys ∧ Below w.heap.size w (tset6 (w4.setCell ⟨w.heap.size, 5, none⟩ v5) (w.heap.size + 1) v0 v1 v2' v3 v4 v6) := by
  have k0 : w.heap.size < w.heap.size + 2 := by omega
  have k1 : w.heap.size + 1 < w.heap.size + 2 := by omega
  have k2 : w.heap.size < w2.heap.size := by omega
  have k3 : w.heap.size + 1 < w2.heap.size := by omega
  have hx1 := ((ownsRow_setCell_below hx (a := ⟨w.heap.size, 4, none⟩) k0 v).alloc o).kept hg (by
    cases hq : (Value.slice a n q).ownBlock with
    | none => exact .inl rfl
    | some g =>
      right
      have := (hx.lt g hq).2
      intro e'
      simp [Value.ownBlock] at e'
      omega)
  refine ⟨⟨?_, ?_, ?_⟩, ?_⟩
  · exact (own_set6 (ownsRow_setCell_below hx1 (a := ⟨w.heap.size, 5, none⟩) k0 _) (w.heap.size + 1) k1 _ _ _ _ _ _).mono (by omega)
  · exact (own_set6 (ownsRow_setCell_below hy (a := ⟨w.heap.size, 5, none⟩) k2 _) (w.heap.size + 1) k3 _ _ _ _ _ _).mono (by omega)
  · intro g h1 h2
    have := (hx.lt g h1).2
    have := (hy.lt g h2).1
    omega
  · exact below_set6 (h.below.setCell (p := ⟨w.heap.size, 5, none⟩) (Nat.le_refl _) _) (w.heap.size + 1) (show w.heap.size ≤ w.heap.size + 1 by omega) _ _ _ _ _ _
set_option maxRecDepth 100000 in
set_option maxHeartbeats 4000000 in
theorem spec_tcopy (rs ls : List Int) (w : World) (hi : NumIn w ra rl rc rs) (hj : NumIn w la ll lc ls) (hrl : rl ≤ 1048577) (hll : ll ≤ 1048577) :
    Calls Tryz.prog 83 #[txnV p e s u ra rl rc la ll lc] w fun x w' => ∃ a q b m, x = .returned (txnV p e s u a rl q b ll m) ∧ OwnTxn w' w.heap.size a rl q b ll m (numCells rs) (numCells ls) ∧ Below w.heap.size w w' := by
  obtain ⟨i0, hi0, hz0, hz1, hz2⟩ := info_parts info_i64
  have HR : Hid (NumIn w ra rl rc rs) := hi
  have HC : Hid (NumIn w la ll lc ls) := hj
  have HL : Hid (rs.length = rl) := hi.nums.1
  have HLC : Hid (ls.length = ll) := hj.nums.1
  clear hi hj
  go_enter Tryz.func83, Tryz.ntmps83
  have HS0 : Hid (T2 w (((w.alloc (txnObj p e s u ra rl rc la ll lc)).alloc (txnObj 0 0 0 0 none 0 0 none 0 0)).alloc (.cells #[] 2)) (txnObj p e s u ra rl rc la ll lc) (txnObj 0 0 0 0 none 0 0 none 0 0)) := (t2_start ..).alloc _
  go_wp2_with (first
    | (at_builtin; refine wpList_append_own_any (by rfl) _ _ 23 (by rfl) (w.heap.size + 2) 2 i0 _ 1 8 Tryz.underlying23 hi0 hz0 hz1 hz2 (by rfl) (by omega) (.slice (some ⟨w.heap.size + 1 + 1, 0, none⟩) 0 0) 0 [] (by rfl) (t_row2 _ _ _ _ _) ra rl rc (numCells rs) (by rfl) (by rw [List.length_map, HL.out]; omega) HR.out.nil (nums_news (nums_below HR.out.nums HS0.out.below)) (numCells_one _) (by unfold maxLen; omega) (by omega) (by simp) ?_; intro v1 w2 ho2 hg2; simp only [Nat.zero_add, List.nil_append] at ho2; obtain ⟨a1, c1, rfl⟩ := own_numV ho2; have hs2 := HS0.out.grown hg2 (fun j e => by simp [Value.ownBlock] at e; omega); have g0 := fun o => tcell hs2.b0 o; have f0 := fun o => tunfrozen hs2.b0 o; have HS3 : Hid (T2 w ((w2.setCell ⟨w.heap.size, 4, none⟩ (.slice a1 rl c1)).alloc (.cells #[] 2)) (txnObj p e s u a1 rl c1 la ll lc) (txnObj 0 0 0 0 none 0 0 none 0 0)) := (hs2.set0 4 (.slice a1 rl c1)).alloc _; have HO2 : Hid (w2.ownsRow (w.heap.size + 2) 2 1 (.slice a1 rl c1) rl (numCells rs)) := ho2; have hz2' : Hid (w.heap.size + 2 ≤ w2.heap.size) := hs2.size; have hz3' : w.heap.size < w2.heap.size := (by have := hz2'.out; omega); clear hs2 hg2 ho2)
    | (at_builtin; refine wpList_append_own_any (by rfl) _ _ 23 (by rfl) w2.heap.size 2 i0 _ 1 8 Tryz.underlying23 hi0 hz0 hz1 hz2 (by rfl) (by omega) (.slice (some ⟨w2.heap.size, 0, none⟩) 0 0) 0 [] (by rfl) (t_rowS _ _ _ _ _) la ll lc (numCells ls) (by rfl) (by rw [List.length_map, HLC.out]; omega) HC.out.nil (nums_news (nums_below HC.out.nums HS3.out.below)) (numCells_one _) (by unfold maxLen; omega) (by omega) (by simp [World.setCell]) ?_; intro v3 w4 ho4 hg4; simp only [Nat.zero_add, List.nil_append] at ho4; obtain ⟨a3, c3, rfl⟩ := own_numV ho4; have hs4 := HS3.out.grown hg4 (fun j e => by have := hz2'.out; simp [Value.ownBlock] at e; omega); have g4 := fun o => tcell hs4.b0 o; have f4 := fun o => tunfrozen hs4.b0 o; have g5 := fun o => tcell hs4.b1 o; have f5 := fun o => tunfrozen hs4.b1 o; have HF : Hid _ := t2_end (v5 := .slice a3 ll c3) (v0 := .int .i64 p) (v1 := .int .i64 e) (v2' := .int .i64 s) (v3 := .int .i64 u) (v4 := .slice a1 rl c1) (v6 := .slice a3 ll c3) hs4 HO2.out ho4 hz2'.out hg4; clear hs4 hg4 ho4 g0 f0))
  obtain ⟨hx, hy⟩ := HF.out
  exact bodyPost_ret (v := txnV p e s u a1 rl c1 a3 ll c3) (by simp [results, Tryz.results83, go_sem, g5]) rfl ⟨a1, c1, a3, c3, rfl, hx, hy⟩
end Go.Proofs.YtahccighonddaaaGreatDoor
namespace Go.Proofs.YtahccighonddaaaGreatDoor
open Go.RowKit
variable {p e s u : Int} {ra la : Option Addr} {rl rc ll lc : Nat}
theorem tans_fin {w w3 : World} {base : Nat} {p e s u : Int} {rs ls : List Int} {a b : Option Addr} {n q m r : Nat} (hn : rs.length = n) (hm : ls.length = m) (ho : OwnTxn w3 base a n q b m r (numCells rs) (numCells ls)) (hb : w.heap.size + 2 ≤ base) (hB : Below w.heap.size w w3) (v0 v1 v2 v3 v4 v5 : Value) :
    TAns w (tset6 w3 (w.heap.size + 1) v0 v1 v2 v3 v4 v5) (.returned (txnV p e s u a n q b m r)) p e s u rs ls := by
  subst hn hm
  exact ⟨a, q, b, r, rfl, (ho.set6 (w.heap.size + 1) (by omega) _ _ _ _ _ _).mono (by omega), below_set6 hB _ (by omega) _ _ _ _ _ _⟩
theorem t2_lt {w wr : World} {o0 o1 : Obj} (h : T2 w wr o0 o1) : w.heap.size < wr.heap.size ∧ w.heap.size + 1 < wr.heap.size := by have := h.size; omega
def tnOpenB (p e s u : Int) (rs ls : List Int) : Bool := txnRightB p e s u rs ls && decide (s = 1)
set_option maxHeartbeats 1000000 in
theorem impl_txnOpen (rs ls : List Int) (w : World) (hi : TIn w ra rl la ll rs ls) :
    Calls Tryz.prog 150 #[txnV p e s u ra rl rc la ll lc] w fun x w' => x = .returned (.bool (tnOpenB p e s u rs ls)) ∧ Below w.heap.size w w' := by
  have HI : Hid (TIn w ra rl la ll rs ls) := hi
  have HRT : Hid _ := fun w (h : TIn w ra rl la ll rs ls) => impl_txnRight (p := p) (e := e) (s := s) (u := u) (rc := rc) (lc := lc) rs ls w h
  clear hi
  have HB0 : Hid (Below w.heap.size w (w.alloc (txnObj p e s u ra rl rc la ll lc))) := tbelow_new _ _
  have HG : Hid (tnOpenB p e s u rs ls = (txnRightB p e s u rs ls && decide (s = 1))) := rfl
  obtain ⟨R, hR⟩ : ∃ R, txnRightB p e s u rs ls = R := ⟨_, rfl⟩
  rw [hR] at HRT HG
  clear hR
  go_enter Tryz.func150, Tryz.ntmps150
  go_wp2_with fail
  refine (HRT.out _ (HI.out.below HB0.out)).mono ?_
  rintro x w1 ⟨rfl, hb1⟩
  have HB1 : Hid (Below w.heap.size w w1) := tbelow_tr HB0.out hb1
  have hK1 := tblk (heap_alloc_new w (txnObj p e s u ra rl rc la ll lc)) hb1
  have hc1 := fun o => tcell hK1 o
  clear hb1 hK1
  cases R
  · have hE : Hid (tnOpenB p e s u rs ls = false) := HG.out.trans (by simp)
    clear HG
    go_wp2
    go_ret
    exact ⟨ret_bool hE.out.symm, HB1.out⟩
  · have hE : Hid (tnOpenB p e s u rs ls = (s == 1)) := HG.out.trans (by simp; rfl)
    clear HG
    go_wp2
    go_ret
    exact ⟨ret_bool hE.out.symm, HB1.out⟩
end Go.Proofs.YtahccighonddaaaGreatDoor
namespace Go.Proofs.YtahccighonddaaaGreatDoor
open Go.RowKit
def ncutAt (a : Option Addr) (i j : Nat) : Option Addr := if j = i then a else a.map fun x => ⟨x.block, x.off + i, none⟩
theorem ncutAt_none {a : Option Addr} {i j : Nat} (e : ncutAt a i j = none) : a = none := by
  unfold ncutAt at e
  split at e
  · exact e
  · cases a with
    | none => rfl
    | some y => simp at e
theorem cut_nums {w : World} {a : Option Addr} {n i j : Nat} {l : List Int} (h : Nums w a n l) (hij : i ≤ j) (hj : j ≤ n) : Nums w (ncutAt a i j) (j - i) ((l.drop i).take (j - i)) := by
  have hl : l.length = n := h.1
  refine ⟨by simp; omega, fun k hk => ?_⟩
  have hk' : k < j - i := by simp at hk; omega
  obtain ⟨b, off, e, hc⟩ := h.2 (i + k) (by omega)
  refine ⟨b, off + i, ?_, ?_⟩
  · unfold ncutAt; rw [if_neg (by omega), e]; rfl
  · rw [show off + i + k = off + (i + k) by omega, hc]; simp
set_option maxHeartbeats 1000000 in
theorem impl_cutN (a : Option Addr) (n c i j : Nat) (w : World) (hij : i ≤ j) (hj : j ≤ n) (hc : n ≤ c) (hm : c ≤ maxLen) (hnil : a = none → n = 0 ∧ c = 0) (hoff : ∀ x, a = some x → x = ⟨x.block, x.off, none⟩) :
    Calls Tryz.prog 203 #[.slice a n c, .int .i64 i, .int .i64 j] w fun x w' => x = .returned (.slice (ncutAt a i j) (j - i) (j - i)) ∧ w' = w := by
  unfold maxLen at hm
  cases a with
  | some x =>
    obtain ⟨b, off, e⟩ : ∃ b off, x = ⟨b, off, none⟩ := ⟨_, _, hoff x rfl⟩
    subst e
    clear hnil hoff
    by_cases h : j = i
    · subst h
      go_enter Tryz.func203, Tryz.ntmps203
      go_wp2
      go_ret
      refine ⟨?_, rfl⟩
      simp [ncutAt]
    · have hE : Hid (ncutAt (some ⟨b, off, none⟩) i j = some ⟨b, off + i, none⟩) := show _ = _ by simp [ncutAt, h]
      go_enter Tryz.func203, Tryz.ntmps203
      go_wp2
      go_ret
      refine ⟨?_, rfl⟩
      rw [hE.out]
      rfl
  | none =>
    obtain ⟨rfl, rfl⟩ := hnil rfl
    obtain rfl : j = 0 := by omega
    obtain rfl : i = 0 := by omega
    go_enter Tryz.func203, Tryz.ntmps203
    go_wp2
    go_ret
    exact ⟨rfl, rfl⟩
theorem with_finN {w : World} {base m m' : Nat} {v : Value} {l r : List Int} {g : Int} (h : w.ownsRow base 2 1 v m ((numCells l ++ [.int .i64 g]) ++ numCells r)) (e : m = m') : w.ownsRow base 2 1 v m' (numCells (l ++ g :: r)) := by
  subst e
  simpa using h
set_option maxRecDepth 100000 in
set_option maxHeartbeats 2000000 in
theorem impl_withN (a : Option Addr) (n c k : Nat) (l : List Int) (g : Int) (w : World) (hi : NumIn w a n c l) (hk : k ≤ n) (hc : c ≤ maxLen) (hn : n ≤ 1048576) :
    Calls Tryz.prog 154 #[.slice a n c, .int .i64 k, .int .i64 g] w fun x w' => ∃ a' c', x = .returned (.slice a' (n + 1) c') ∧ NumIn w' a' (n + 1) c' (l.take k ++ g :: l.drop k) ∧ Below w.heap.size w w' ∧ ∀ x, a' = some x → w.heap.size ≤ x.block := by
  obtain ⟨i0, hi0, hz0, hz1, hz2⟩ := info_parts info_i64
  have H1 : Hid (∀ w, Calls Tryz.prog 203 #[.slice a n c, .int .i64 0, .int .i64 k] w fun x w' => x = .returned (.slice (ncutAt a 0 k) k k) ∧ w' = w) := fun w => impl_cutN a n c 0 k w (by omega) hk hi.cap hc hi.nil hi.off
  have H2 : Hid (∀ w, Calls Tryz.prog 203 #[.slice a n c, .int .i64 k, .int .i64 n] w fun x w' => x = .returned (.slice (ncutAt a k n) (n - k) (n - k)) ∧ w' = w) := fun w => impl_cutN a n c k n w hk (Nat.le_refl _) hi.cap hc hi.nil hi.off
  have HI : Hid (NumIn w a n c l) := hi
  have HL : Hid (l.length = n) := hi.nums.1
  clear hi
  have HO : Hid (∀ W, Below w.heap.size w W → ∀ x, ncutAt a 0 k = some x → ∀ j u, (numCells (l.take k))[j]? = some u → W.cell? (x.add j) = some u) := fun W hb => nums_news (n := k) (by have h := cut_nums (nums_below HI.out.nums hb) (Nat.zero_le k) hk; simpa using h)
  have HN : Hid (∀ W, Below w.heap.size w W → ∀ x, ncutAt a k n = some x → ∀ j u, (numCells (l.drop k))[j]? = some u → W.cell? (x.add j) = some u) := fun W hb => nums_news (n := n - k) (by have h := cut_nums (nums_below HI.out.nums hb) hk (Nat.le_refl n); rwa [List.take_of_length_le (by simp; rw [HL.out]; omega)] at h)
  have HZ1 : Hid ((numCells (l.take k)).length = k * 1) := show _ = _ by rw [List.length_map, List.length_take, HL.out]; omega
  have HZ2 : Hid ((numCells (l.drop k)).length = (n - k) * 1) := show _ = _ by rw [List.length_map, List.length_drop, HL.out]; omega
  have HN1 : Hid (ncutAt a 0 k = none → k = 0) := fun e => by have := (HI.out.nil (ncutAt_none e)).1; omega
  have HN2 : Hid (ncutAt a k n = none → n - k = 0 ∧ n - k = 0) := fun e => by have := (HI.out.nil (ncutAt_none e)).1; omega
  obtain ⟨x1, e1⟩ : ∃ x, ncutAt a 0 k = x := ⟨_, rfl⟩
  obtain ⟨x2, e2⟩ : ∃ x, ncutAt a k n = x := ⟨_, rfl⟩
  rw [e1] at H1 HO HN1
  rw [e2] at H2 HN HN2
  clear e1 e2
  have HBW : Hid (Below w.heap.size w (w.alloc (.cells #[.int .i64 g] 2))) := tbelow_new _ _
  go_enter Tryz.func154, Tryz.ntmps154
  go_wp2_with fail
  refine (H1.out _).mono ?_
  rintro x w1 ⟨rfl, hw1⟩
  rw [hw1]
  clear hw1 w1
  go_wp2_with (at_builtin; refine wpList_append_full (by rfl) _ _ _ (by rfl) 2 i0 _ 1 8 Tryz.underlying189 hi0 hz0 hz1 hz2 (by rfl) (by omega) x1 k (numCells (l.take k)) (by rfl) HN1.out HZ1.out (HO.out _ HBW.out) ⟨w.heap.size, 0, none⟩ 1 1 [.int .i64 g] (by rfl) (by rfl) (cell_one_new _ _ _) (by simp [Value.oneCell']) (by omega) (by unfold maxLen; omega) (by omega) ?_; intro v1 w2 ho2 hg2)
  have hBB : Below w.heap.size w w2 := HBW.out.grown hg2 (by simp) (fun _ e => by cases e)
  have hbs := hg2.size
  have HB2 : Hid (Below w.heap.size w w2) := hBB
  have HO2 : Hid (w2.ownsRow (w.alloc (.cells #[.int .i64 g] 2)).heap.size 2 1 v1 (k + 1) (numCells (l.take k) ++ [.int .i64 g])) := ho2
  clear ho2 hg2 hBB
  refine (H2.out _).mono ?_
  rintro x w3 ⟨rfl, hw3⟩
  rw [hw3]
  clear hw3 w3
  go_wp2_with (at_builtin; refine wpList_append_own_any (by rfl) _ _ _ (by rfl) _ 2 i0 _ 1 8 Tryz.underlying189 hi0 hz0 hz1 hz2 (by rfl) (by omega) v1 (k + 1) _ (by rfl) HO2.out x2 (n - k) (n - k) (numCells (l.drop k)) (by rfl) HZ2.out HN2.out (HN.out _ HB2.out) (numCells_one _) (by unfold maxLen; omega) (by omega) hbs ?_; intro v2 w3 ho3 hg3)
  have hfin := with_finN ho3 (show k + 1 + (n - k) = n + 1 by omega)
  obtain ⟨a', c', hv, hci⟩ := own_numIn hfin
  have HCI : Hid (NumIn w3 a' (n + 1) c' (l.take k ++ g :: l.drop k)) := hci
  have HNW : Hid (∀ x, a' = some x → w.heap.size ≤ x.block) := fun x e => by
    rw [hv] at hfin
    obtain ⟨q, e2⟩ := own_nform hfin (by omega)
    rw [e2] at e
    cases e
    have h := (hfin.lt q (by rw [e2]; rfl)).1
    simp at h
    show w.heap.size ≤ q
    omega
  have HB3 : Hid (Below w.heap.size w w3) := HB2.out.grown hg3 HB2.out.size (fun q e => by have h := (HO2.out.lt q e).1; simp at h; omega)
  rw [hv]
  clear hci hfin hv ho3 hg3
  go_wp2
  go_ret
  exact ⟨a', c', rfl, HCI.out, HB3.out, HNW.out⟩
theorem touch_keep {w w1 w3 : World} {o0 o1 : Obj} {a : Option Addr} {n c k : Nat} {l : List Int} {v : Value} (h : T2 w w1 o0 o1) (hn : NumIn w3 a n c l) (ha : ∀ x, a = some x → w1.heap.size ≤ x.block) : NumIn (w3.setCell ⟨w.heap.size, k, none⟩ v) a n c l := by
  have hz := h.size
  refine ⟨⟨hn.nums.1, fun i hi => ?_⟩, fun x e => by simpa [World.setCell] using hn.lt x e, hn.nil, hn.cap, hn.off⟩
  obtain ⟨b, off, e, hc⟩ := hn.nums.2 i hi
  have hb := ha _ e
  refine ⟨b, off, e, ?_⟩
  rw [← hc]
  exact World.cell?_of_block (Below.heap_setCell w3 ⟨w.heap.size, k, none⟩ v b (show b ≠ w.heap.size by have : w1.heap.size ≤ b := hb; omega))
end Go.Proofs.YtahccighonddaaaGreatDoor
namespace Go.Proofs.YtahccighonddaaaGreatDoor
open Go.RowKit
theorem nown_capMax {w : World} {base e size n m c : Nat} {a : Option Addr} {xs : List Value} (h : w.ownsRow base e size (.slice a n c) m xs) : c ≤ maxLen := by
  rcases h.2 with ⟨e1, _⟩ | ⟨g, cap, cur, e1, _, _, _, hm, _⟩
  · simp only [Value.slice.injEq] at e1
    rw [e1.2.2]
    exact Nat.zero_le _
  · simp only [Value.slice.injEq] at e1
    rw [e1.2.2]
    exact hm
end Go.Proofs.YtahccighonddaaaGreatDoor
namespace Go.Proofs.YtahccighonddaaaGreatDoor
open Go.RowKit
variable {p e s u : Int} {ra la : Option Addr} {rl rc ll lc : Nat}
def insN (g : Int) (rs : List Int) : List Int := if hasB rs g = true then rs else rs.take (findN g rs) ++ g :: rs.drop (findN g rs)
def touchL (p e s u : Int) (rs ls : List Int) (g : Int) : List Int := if (tnOpenB p e s u rs ls && rnum g) = true then insN g rs else rs
theorem right_up {p e s u : Int} {rs ls : List Int} (h : tnOpenB p e s u rs ls = true) : upB rs = true := by
  simp [tnOpenB, txnRightB, ringsB] at h
  simp [h]
set_option maxRecDepth 100000 in
set_option maxHeartbeats 4000000 in
theorem impl_txnTouch (g : Int) (rs ls : List Int) (w : World) (hi : TnFit w ra rl rc la ll lc rs ls) :
    Calls Tryz.prog 98 #[txnV p e s u ra rl rc la ll lc, .int .i64 g] w fun x w' => TAns w w' x p e s u (touchL p e s u rs ls g) ls := by
  have HI : Hid (TnFit w ra rl rc la ll lc rs ls) := hi
  have hrl : rl ≤ 1048577 := Nat.le_succ_of_le hi.rle
  have hrl' : rl ≤ 1048576 := hi.rle
  have hll : ll ≤ 1048577 := Nat.le_succ_of_le hi.lle
  have HL : Hid (rs.length = rl) := hi.rs.nums.1
  have HLC : Hid (ls.length = ll) := hi.ls.nums.1
  have HRT : Hid _ := fun w (h : TIn w ra rl la ll rs ls) => impl_txnOpen (p := p) (e := e) (s := s) (u := u) (rc := rc) (lc := lc) rs ls w h
  have HIS : Hid _ := fun w => timpl_rnum g w
  have HTB : Hid _ := fun w => impl_touchedBy (p := p) (e := e) (s := s) (u := u) (ra := ra) (la := la) (rl := rl) (rc := rc) (ll := ll) (lc := lc) w
  have HTC : Hid _ := fun B w hb hr => impl_touched (p := p) (e := e) (s := s) (u := u) (ra := ra) (la := la) (rl := rl) (rc := rc) (ll := ll) (lc := lc) B g rs w hb hr hrl'
  have HFI : Hid _ := fun w h => impl_findN ra rl rc g rs w h hrl'
  have HKL : Hid (findN g rs ≤ rl) := by have := findN_le g rs; rw [HL.out] at this; exact this
  clear hi
  have HS0 : Hid (T2 w ((w.alloc (txnObj p e s u ra rl rc la ll lc)).alloc (txnObj 0 0 0 0 none 0 0 none 0 0)) (txnObj p e s u ra rl rc la ll lc) (txnObj 0 0 0 0 none 0 0 none 0 0)) := t2_start ..
  have HN : Hid ((tnOpenB p e s u rs ls && rnum g) = false → touchL p e s u rs ls g = rs) := fun h => by simp [touchL, h]
  have HT1 : Hid (tnOpenB p e s u rs ls = true → rnum g = true → touchB rs g = true → touchL p e s u rs ls g = rs) := fun h1 h2 h3 => by
    have : hasB rs g = true := by rw [← find_has (right_up h1) g]; exact h3
    simp [touchL, insN, this]
  have HT2 : Hid (tnOpenB p e s u rs ls = true → rnum g = true → touchB rs g = false → touchL p e s u rs ls g = rs.take (findN g rs) ++ g :: rs.drop (findN g rs)) := fun h1 h2 h3 => by
    have : hasB rs g = false := by rw [← find_has (right_up h1) g]; exact h3
    simp [touchL, insN, this, h1, h2]
  obtain ⟨R, hR⟩ : ∃ R, tnOpenB p e s u rs ls = R := ⟨_, rfl⟩
  obtain ⟨E, hE⟩ : ∃ E, rnum g = E := ⟨_, rfl⟩
  obtain ⟨T, hT⟩ : ∃ T, touchB rs g = T := ⟨_, rfl⟩
  obtain ⟨K, hK⟩ : ∃ K, findN g rs = K := ⟨_, rfl⟩
  rw [hR] at HRT HN HT1 HT2
  rw [hE] at HIS HN HT1 HT2
  rw [hT] at HTC HT1 HT2
  rw [hK] at HT2 HFI HKL
  obtain ⟨FB, hFB⟩ : ∃ FB, findNB g rs = FB := ⟨_, rfl⟩
  rw [hFB] at HFI
  clear hR hE hT hK hFB
  have hKc := HKL.out
  go_enter Tryz.func98, Tryz.ntmps98
  go_wp2_with fail
  refine (HRT.out _ (HI.out.tin.below HS0.out.below)).mono ?_
  rintro x w1 ⟨rfl, hb1⟩
  have HS1 : Hid _ := HS0.out.under hb1
  have hc1 := fun o => HS1.out.cell0 o
  have hf1 := fun o => HS1.out.free0 o
  clear hb1
  cases R
  · have H1 : Hid _ := HN.out (by simp)
    clear HN HT1 HT2
    go_wp2_with fail
    refine (impl_copyTxn rs ls _ (HI.out.rs.below HS1.out.below) (HI.out.ls.below HS1.out.below) hrl hll).mono ?_
    rintro x w2 ⟨a2, q2, b2, m2, rfl, ho2, hb2⟩
    have HS2 : Hid _ := HS1.out.under hb2
    have hc2 := fun o => HS2.out.cell1 o
    have hf2 := fun o => HS2.out.free1 o
    have HO2 : Hid (OwnTxn w2 w1.heap.size a2 rl q2 b2 ll m2 (numCells rs) (numCells ls)) := ho2
    clear hb2 ho2 hc1 hf1
    go_wp2
    refine bodyPost_ret (v := txnV p e s u a2 rl q2 b2 ll m2) (by simp [results, Tryz.results98, go_sem, hc2]) rfl ?_
    rw [H1.out]
    exact tans_fin HL.out HLC.out HO2.out HS1.out.size HS2.out.below _ _ _ _ _ _
  · go_wp2_with fail
    refine (HIS.out _).mono ?_
    rintro x w1' ⟨rfl, hw1⟩
    rw [hw1]
    clear hw1 w1'
    cases E
    · have H1 : Hid _ := HN.out (by simp)
      clear HN HT1 HT2
      go_wp2_with fail
      refine (impl_copyTxn rs ls _ (HI.out.rs.below HS1.out.below) (HI.out.ls.below HS1.out.below) hrl hll).mono ?_
      rintro x w2 ⟨a2, q2, b2, m2, rfl, ho2, hb2⟩
      have HS2 : Hid _ := HS1.out.under hb2
      have hc2 := fun o => HS2.out.cell1 o
      have hf2 := fun o => HS2.out.free1 o
      have HO2 : Hid (OwnTxn w2 w1.heap.size a2 rl q2 b2 ll m2 (numCells rs) (numCells ls)) := ho2
      clear hb2 ho2 hc1 hf1
      go_wp2
      refine bodyPost_ret (v := txnV p e s u a2 rl q2 b2 ll m2) (by simp [results, Tryz.results98, go_sem, hc2]) rfl ?_
      rw [H1.out]
      exact tans_fin HL.out HLC.out HO2.out HS1.out.size HS2.out.below _ _ _ _ _ _
    · go_wp2_with fail
      refine (HTB.out _).mono ?_
      rintro x w1' ⟨rfl, hw1⟩
      rw [hw1]
      clear hw1 w1'
      have HS1' : Hid _ := HS1.out.alloc (txnObj p e s u ra rl rc la ll lc)
      go_wp2_with fail
      refine (HTC.out w1.heap.size _ (heap_alloc_new _ _) (HI.out.rs.below HS1'.out.below).nums).mono ?_
      rintro x w1' ⟨rfl, hw1⟩
      rw [hw1]
      clear hw1 w1'
      obtain ⟨W1, eW1⟩ : ∃ W1, w1.alloc (txnObj p e s u ra rl rc la ll lc) = W1 := ⟨_, rfl⟩
      rw [eW1] at HS1' ⊢
      clear eW1 hc1 hf1 HS1
      have hc1 := fun o => HS1'.out.cell0 o
      have hf1 := fun o => HS1'.out.free0 o
      cases T
      · have H1 : Hid _ := HT2.out (by simp) (by simp) (by simp)
        clear HN HT1 HT2
        go_wp2_with fail
        refine (HFI.out _ (HI.out.rs.below HS1'.out.below).nums).mono ?_
        rintro x w1' ⟨rfl, hw1⟩
        rw [hw1]
        clear hw1 w1'
        go_wp2_with fail
        refine (impl_withN ra rl rc K rs g _ (HI.out.rs.below HS1'.out.below) hKc HI.out.rcm hrl').mono ?_
        rintro x w3 ⟨a3, c3, rfl, hn3, hb3, ha3⟩
        have HS3 : Hid _ := HS1'.out.under hb3
        have HN3 : Hid (NumIn w3 a3 (rl + 1) c3 (rs.take K ++ g :: rs.drop K)) := hn3
        have HS4 : Hid (T2 w (w3.setCell ⟨w.heap.size, 4, none⟩ (.slice a3 (rl + 1) c3)) (txnObj p e s u a3 (rl + 1) c3 la ll lc) (txnObj 0 0 0 0 none 0 0 none 0 0)) := HS3.out.set0 4 (.slice a3 (rl + 1) c3)
        have HN4 : Hid (NumIn (w3.setCell ⟨w.heap.size, 4, none⟩ (.slice a3 (rl + 1) c3)) a3 (rl + 1) c3 (rs.take K ++ g :: rs.drop K)) := touch_keep HS1'.out hn3 ha3
        have hc3 := fun o => HS3.out.cell0 o
        have hf3 := fun o => HS3.out.free0 o
        clear hb3 hn3 hc1 hf1 ha3
        go_wp2_with fail
        obtain ⟨W4, eW4⟩ : ∃ W4, w3.setCell ⟨w.heap.size, 4, none⟩ (.slice a3 (rl + 1) c3) = W4 := ⟨_, rfl⟩
        rw [eW4] at HS4 HN4 ⊢
        clear eW4 hc3 hf3
        refine (impl_copyTxn (rs.take K ++ g :: rs.drop K) ls _ HN4.out (HI.out.ls.below HS4.out.below) (by omega) hll).mono ?_
        rintro x w5 ⟨a5, q5, b5, m5, rfl, ho5, hb5⟩
        have HS5 : Hid _ := HS4.out.under hb5
        have hc5 := fun o => HS5.out.cell1 o
        have hf5 := fun o => HS5.out.free1 o
        have HO5 : Hid (OwnTxn w5 W4.heap.size a5 (rl + 1) q5 b5 ll m5 (numCells (rs.take K ++ g :: rs.drop K)) (numCells ls)) := ho5
        clear hb5 ho5
        go_wp2
        refine bodyPost_ret (v := txnV p e s u a5 (rl + 1) q5 b5 ll m5) (by simp [results, Tryz.results98, go_sem, hc5]) rfl ?_
        rw [H1.out]
        exact tans_fin HN4.out.nums.1 HLC.out HO5.out HS4.out.size HS5.out.below _ _ _ _ _ _
      · have H1 : Hid _ := HT1.out (by simp) (by simp) (by simp)
        clear HN HT1 HT2
        go_wp2_with fail
        refine (impl_copyTxn rs ls _ (HI.out.rs.below HS1'.out.below) (HI.out.ls.below HS1'.out.below) hrl hll).mono ?_
        rintro x w2 ⟨a2, q2, b2, m2, rfl, ho2, hb2⟩
        have HS2 : Hid _ := HS1'.out.under hb2
        have hc2 := fun o => HS2.out.cell1 o
        have hf2 := fun o => HS2.out.free1 o
        have HO2 : Hid (OwnTxn w2 W1.heap.size a2 rl q2 b2 ll m2 (numCells rs) (numCells ls)) := ho2
        clear hb2 ho2 hc1 hf1
        go_wp2
        refine bodyPost_ret (v := txnV p e s u a2 rl q2 b2 ll m2) (by simp [results, Tryz.results98, go_sem, hc2]) rfl ?_
        rw [H1.out]
        exact tans_fin HL.out HLC.out HO2.out HS1'.out.size HS2.out.below _ _ _ _ _ _
end Go.Proofs.YtahccighonddaaaGreatDoor
namespace Go.Proofs.YtahccighonddaaaGreatDoor
open Go.RowKit
variable {p e s u : Int} {ra la : Option Addr} {rl rc ll lc : Nat}
structure TO (w w1 wr : World) (o0 o1 o : Obj) (b : Option Addr) (n c : Nat) (ys : List Value) : Prop where
  t2 : T2 w wr o0 o1
  bo : wr.heap[w1.heap.size]? = some o
  own : wr.ownsRow (w.heap.size + 2) 2 1 (.slice b n c) n ys
  ltb : ∀ g, (Value.slice b n c).ownBlock = some g → g < w1.heap.size
  size : w1.heap.size + 1 ≤ wr.heap.size
  le : w.heap.size + 2 ≤ w1.heap.size
theorem TO.grown {w w1 wr wx : World} {o0 o1 o : Obj} {b : Option Addr} {n c : Nat} {ys : List Value} {row : Option Nat} (h : TO w w1 wr o0 o1 o b n c ys) (hg : wr.grownBy wx row) (hr : ∀ j, row = some j → w1.heap.size + 1 ≤ j) : TO w w1 wx o0 o1 o b n c ys := by
  have hle := h.le
  have hz := h.size
  refine ⟨h.t2.grown hg (fun j e' => by have := hr j e'; omega), (hg.block _ (by omega) (fun e' => by have := hr _ e'.symm; omega)).trans h.bo, h.own.kept hg ?_, h.ltb, Nat.le_trans h.size hg.size, h.le⟩
  cases hq : (Value.slice b n c).ownBlock with
  | none => exact .inl rfl
  | some g =>
    right
    intro e'
    have h1 := h.ltb g hq
    have h2 := hr g e'.symm
    omega
theorem TO.alloc {w w1 wr : World} {o0 o1 o : Obj} {b : Option Addr} {n c : Nat} {ys : List Value} (h : TO w w1 wr o0 o1 o b n c ys) (x : Obj) : TO w w1 (wr.alloc x) o0 o1 o b n c ys := h.grown (World.grownBy_alloc wr x none) (fun j e' => by cases e')
theorem to_start {w w1 : World} {o0 o1 o : Obj} {a b : Option Addr} {m q n c N : Nat} {xs ys : List Value} (h : T2 w w1 o0 o1) (ho : OwnTxn w1 N a m q b n c xs ys) (hN : w.heap.size + 2 ≤ N) : TO w w1 (w1.alloc o) o0 o1 o b n c ys :=
  ⟨h.alloc o, heap_alloc_new _ _, (ho.2.1.mono hN).alloc o, fun g e' => (ho.2.1.lt g e').2, by simp, h.size⟩
theorem TO.fin {w w1 wr : World} {o0 o1 o : Obj} {b a : Option Addr} {n c m q : Nat} {xs ys : List Value} (h : TO w w1 wr o0 o1 o b n c ys) (hx : wr.ownsRow (w1.heap.size + 1) 2 1 (.slice a m q) m xs) (v v0 v1 v2 v3 v4 v5 : Value) :
    OwnTxn (tset6 (wr.setCell ⟨w1.heap.size, 4, none⟩ v) (w.heap.size + 1) v0 v1 v2 v3 v4 v5) w.heap.size a m q b n c xs ys ∧ Below w.heap.size w (tset6 (wr.setCell ⟨w1.heap.size, 4, none⟩ v) (w.heap.size + 1) v0 v1 v2 v3 v4 v5) := by
  have hle := h.le
  have hy : (wr.setCell ⟨w1.heap.size, 4, none⟩ v).ownsRow (w.heap.size + 2) 2 1 (.slice b n c) n ys := by
    refine ⟨h.own.1, ?_⟩
    rcases h.own.2 with hn | ⟨g, cap, cur, e', hb', hg', rest⟩
    · exact .inl hn
    · have hgl : g < w1.heap.size := h.ltb g (by rw [e']; rfl)
      exact .inr ⟨g, cap, cur, e', hb', (Below.heap_setCell wr ⟨w1.heap.size, 4, none⟩ v g (show g ≠ w1.heap.size by omega)).trans hg', rest⟩
  refine ⟨⟨?_, ?_, ?_⟩, ?_⟩
  · exact (own_set6 (ownsRow_setCell_below hx (a := ⟨w1.heap.size, 4, none⟩) (show w1.heap.size < w1.heap.size + 1 by omega) _) (w.heap.size + 1) (by omega) _ _ _ _ _ _).mono (by omega)
  · exact (own_set6 hy (w.heap.size + 1) (by omega) _ _ _ _ _ _).mono (by omega)
  · intro g h1 h2
    have := (hx.lt g h1).1
    have := h.ltb g h2
    omega
  · exact below_set6 (h.t2.below.setCell (p := ⟨w1.heap.size, 4, none⟩) (show w.heap.size ≤ w1.heap.size by omega) _) (w.heap.size + 1) (show w.heap.size ≤ w.heap.size + 1 by omega) _ _ _ _ _ _
theorem tans_ins {w w' : World} {p e s u : Int} {rs ls xs : List Int} {a b : Option Addr} {n q m r : Nat} (hx : xs = rs) (hn : xs.length = n) (hm : ls.length = m) (ho : OwnTxn w' w.heap.size a n q b m r (numCells xs) (numCells ls) ∧ Below w.heap.size w w') : TAns w w' (.returned (txnV p e s u a n q b m r)) p e s u rs ls := by
  subst hx hn hm
  exact ⟨a, q, b, r, rfl, ho.1, ho.2⟩
theorem nums_take {w : World} {b off n P : Nat} {l : List Int} (h : Nums w (some ⟨b, off, none⟩) n l) (hP : P ≤ n) : Nums w (some ⟨b, off, none⟩) P (l.take P) := by
  have hl : l.length = n := h.1
  refine ⟨by simp; omega, fun k hk => ?_⟩
  have hk' : k < P := by simp at hk; omega
  obtain ⟨b', off', e, hc⟩ := h.2 k (by omega)
  cases e
  exact ⟨b, off, rfl, by rw [hc]; simp⟩
theorem nums_drop {w : World} {b off n P : Nat} {l : List Int} (h : Nums w (some ⟨b, off, none⟩) n l) (_hP : P ≤ n) : Nums w (some ⟨b, off + P, none⟩) (n - P) (l.drop P) := by
  have hl : l.length = n := h.1
  refine ⟨by simp; omega, fun k hk => ?_⟩
  have hk' : P + k < l.length := by simp at hk; omega
  obtain ⟨b', off', e, hc⟩ := h.2 (P + k) hk'
  cases e
  refine ⟨b, off + P, rfl, ?_⟩
  rw [show off + P + k = off + (P + k) by omega, hc]; simp
set_option maxRecDepth 100000 in
set_option maxHeartbeats 8000000 in
theorem spec_ttouch (g : Int) (rs ls : List Int) (w : World) (hi : TnFit w ra rl rc la ll lc rs ls) :
    Calls Tryz.prog 38 #[txnV p e s u ra rl rc la ll lc, .int .i64 g] w fun x w' => TAns w w' x p e s u (insN g rs) ls := by
  obtain ⟨i0, hi0, hz0, hz1, hz2⟩ := info_parts info_i64
  have HI : Hid (TnFit w ra rl rc la ll lc rs ls) := hi
  have hrl : rl ≤ 1048577 := Nat.le_succ_of_le hi.rle
  have hrl' : rl ≤ 1048576 := hi.rle
  have hll : ll ≤ 1048577 := Nat.le_succ_of_le hi.lle
  have hrcm : rc ≤ 2 ^ 63 - 1 := hi.rcm
  have HL : Hid (rs.length = rl) := hi.rs.nums.1
  have HLC : Hid (ls.length = ll) := hi.ls.nums.1
  have HHA : Hid _ := fun w h => spec_has ra rl rc rs g w h hrl'
  have H1 : Hid (hasB rs g = true → insN g rs = rs) := fun h => by simp [insN, h]
  have H2 : Hid (hasB rs g = false → rs.take (findN g rs) ++ g :: rs.drop (findN g rs) = insN g rs) := fun h => by simp [insN, h]
  clear hi
  have HS0 : Hid (T2 w ((w.alloc (txnObj p e s u ra rl rc la ll lc)).alloc (txnObj 0 0 0 0 none 0 0 none 0 0)) (txnObj p e s u ra rl rc la ll lc) (txnObj 0 0 0 0 none 0 0 none 0 0)) := t2_start ..
  obtain ⟨T, hT⟩ : ∃ T, hasB rs g = T := ⟨_, rfl⟩
  rw [hT] at HHA H1 H2
  clear hT
  go_enter Tryz.func38, Tryz.ntmps38
  go_wp2_with fail
  refine (spec_tcopy rs ls _ (HI.out.rs.below HS0.out.below) (HI.out.ls.below HS0.out.below) hrl hll).mono ?_
  rintro x w1 ⟨a1, q1, b1, m1, rfl, ho1, hb1⟩
  have HS1 : Hid (T2 w w1 (txnObj p e s u ra rl rc la ll lc) (txnObj 0 0 0 0 none 0 0 none 0 0)) := HS0.out.under hb1
  have HO1 : Hid (OwnTxn w1 (w.heap.size + 2) a1 rl q1 b1 ll m1 (numCells rs) (numCells ls)) := ho1.mono (by simp)
  clear hb1 ho1
  have HT1 : Hid (TO w w1 (w1.alloc (txnObj p e s u a1 rl q1 b1 ll m1)) (txnObj p e s u ra rl rc la ll lc) (txnObj 0 0 0 0 none 0 0 none 0 0) (txnObj p e s u a1 rl q1 b1 ll m1) b1 ll m1 (numCells ls)) := to_start HS1.out HO1.out (Nat.le_refl _)
  have HO1' : Hid (OwnTxn (w1.alloc (txnObj p e s u a1 rl q1 b1 ll m1)) (w.heap.size + 2) a1 rl q1 b1 ll m1 (numCells rs) (numCells ls)) := HO1.out.below (tbelow_new _ _)
  have hlt1 : w.heap.size < w1.heap.size := (t2_lt HS1.out).1
  have hne1 : w.heap.size ≠ w1.heap.size := by omega
  have hc1 := fun o => HS1.out.cell0 o
  go_wp2_with fail
  refine (HHA.out _ (HI.out.rs.below HT1.out.t2.below).nums).mono ?_
  rintro x w1' ⟨rfl, hw1⟩
  rw [hw1]
  clear hw1 w1'
  obtain ⟨W1, eW1⟩ : ∃ W1, w1.alloc (txnObj p e s u a1 rl q1 b1 ll m1) = W1 := ⟨_, rfl⟩
  have hzW : W1.heap.size = w1.heap.size + 1 := by rw [← eW1]; simp
  rw [eW1] at HT1 HO1' ⊢
  clear eW1 hc1 HO1
  have hc1 := fun o => HT1.out.t2.cell0 o
  have hd1 := fun o => HT1.out.t2.cell1 o
  have hf1 := fun o => HT1.out.t2.free1 o
  have hx1 := fun o => tcell HT1.out.bo o
  have hle1 := HT1.out.le
  cases T
  · have HE : Hid _ := H2.out (by simp)
    clear H1 H2 HHA
    go_wp2
    go_loop [6] (fun i => ∃ k : Nat, k ≤ rl ∧ i = .int .i64 k ∧ Hid (lowN g rs k)) (fun i => rl - (intOf i).toNat)
    case atStart => exact ⟨0, by omega, rfl, fun j hj => by omega⟩
    case round =>
      obtain ⟨k, hkn, rfl, hr⟩ := hrel
      have hend : (k < rl → ∀ h : k < rs.length, g ≤ rs[k]) → Hid (findN g rs = k) := fun h => by
        by_cases hk : k < rl
        · have hkl : k < rs.length := by rw [HL.out]; exact hk
          exact (findN_at hr.out hkl (h hk hkl)).1
        · show _ = _
          rw [(findN_none hr.out (by rw [HL.out]; omega)).1, HL.out]
          omega
      cases ra with
      | none =>
        obtain ⟨e1, e2⟩ := HI.out.rs.nil rfl
        subst e1 e2
        obtain rfl : k = 0 := by omega
        have HK := hend (fun h => by omega)
        have hrs : Hid (rs = []) := List.eq_nil_of_length_eq_zero HL.out
        clear hend hr
        have HTa : Hid (TO w w1 (W1.alloc (.cells #[] 2)) (txnObj p e s u none 0 0 la ll lc) (txnObj 0 0 0 0 none 0 0 none 0 0) (txnObj p e s u a1 0 q1 b1 ll m1) b1 ll m1 (numCells ls)) := HT1.out.alloc _
        have HRW : Hid ((W1.alloc (.cells #[] 2)).ownsRow (w1.heap.size + 1) 2 1 (.slice (some ⟨w1.heap.size + 1, 0, none⟩) 0 0) 0 []) := by
          have h := t_row W1 2 1
          rw [hzW] at h
          exact h
        go_wp2_with (first
          | (at_builtin; refine wpList_append_own_any (by rfl) _ _ 23 (by rfl) (w1.heap.size + 1) 2 i0 _ 1 8 Tryz.underlying23 hi0 hz0 hz1 hz2 (by rfl) (by omega) (.slice (some ⟨w1.heap.size + 1, 0, none⟩) 0 0) 0 [] (by rfl) HRW.out none 0 0 (numCells (rs.take 0)) (by rfl) (by simp [hrs.out]) (fun _ => ⟨rfl, rfl⟩) (fun _ e' => by cases e') (numCells_one _) (by unfold maxLen; omega) (by omega) HTa.out.size ?_; intro v2 w2 ho2 hg2; simp only [Nat.zero_add, List.nil_append] at ho2; have ht2 := HTa.out.grown hg2 (fun j e' => by simp [Value.ownBlock] at e'; omega); have HTb : Hid (TO w w1 (w2.alloc (.cells #[.int .i64 g] 2)) (txnObj p e s u none 0 0 la ll lc) (txnObj 0 0 0 0 none 0 0 none 0 0) (txnObj p e s u a1 0 q1 b1 ll m1) b1 ll m1 (numCells ls)) := ht2.alloc _; have HO2 : Hid (w2.ownsRow (w1.heap.size + 1) 2 1 v2 0 (numCells (rs.take 0))) := ho2; clear ht2 ho2 hg2)
          | (at_builtin; refine wpList_append_own_any (by rfl) _ _ 23 (by rfl) (w1.heap.size + 1) 2 i0 _ 1 8 Tryz.underlying23 hi0 hz0 hz1 hz2 (by rfl) (by omega) v2 0 (numCells (rs.take 0)) (by rfl) (HO2.out.alloc _) (some ⟨w2.heap.size, 0, none⟩) 1 1 [.int .i64 g] (by rfl) (by rfl) (fun e' => by cases e') (fun ad e' => by cases e'; exact cell_one_new _ _ _) (by simp [Value.oneCell']) (by unfold maxLen; omega) (by omega) HTb.out.size ?_; intro v3 w3 ho3 hg3; have ht3 := HTb.out.grown hg3 (fun j e' => (HO2.out.lt j e').1); have HTc : Hid (TO w w1 w3 (txnObj p e s u none 0 0 la ll lc) (txnObj 0 0 0 0 none 0 0 none 0 0) (txnObj p e s u a1 0 q1 b1 ll m1) b1 ll m1 (numCells ls)) := ht3; have hc3 := fun o => ht3.t2.cell0 o; have HO3 : Hid (w3.ownsRow (w1.heap.size + 1) 2 1 v3 (0 + 1) (numCells (rs.take 0) ++ [.int .i64 g])) := ho3; clear ht3 ho3 hg3)
          | (at_builtin; refine wpList_append_own_any (by rfl) _ _ 23 (by rfl) (w1.heap.size + 1) 2 i0 _ 1 8 Tryz.underlying23 hi0 hz0 hz1 hz2 (by rfl) (by omega) v3 (0 + 1) (numCells (rs.take 0) ++ [.int .i64 g]) (by rfl) HO3.out none 0 0 (numCells (rs.drop 0)) (by rfl) (by simp [hrs.out]) (fun _ => ⟨rfl, rfl⟩) (fun _ e' => by cases e') (numCells_one _) (by unfold maxLen; omega) (by omega) HTc.out.size ?_; intro v4 w4 ho4 hg4; have hf4 := with_finN ho4 (show 0 + 1 + 0 = 0 + 1 by omega); obtain ⟨a4, c4, rfl⟩ := own_numV hf4; have ht4 := HTc.out.grown hg4 (fun j e' => (HO3.out.lt j e').1); have hx4 := fun o => tcell ht4.bo o; have hy4 := fun o => tunfrozen ht4.bo o; have hd4 := fun o => ht4.t2.cell1 o; have hv4 := fun o => ht4.t2.free1 o; have HF : Hid _ := ht4.fin hf4 (.slice a4 (0 + 1) c4) (.int .i64 p) (.int .i64 e) (.int .i64 s) (.int .i64 u) (.slice a4 (0 + 1) c4) (.slice b1 ll m1); have HLN : Hid ((rs.take 0 ++ g :: rs.drop 0).length = 0 + 1) := (show _ = _ by simp [hrs.out]); clear ht4 ho4 hg4 hf4))
        refine bodyPost_ret (v := txnV p e s u a4 (0 + 1) c4 b1 ll m1) (by simp [results, Tryz.results38, go_sem, hd4]) rfl ?_
        exact tans_ins (by rw [← HE.out, HK.out]) HLN.out HLC.out HF.out
      | some ax =>
        obtain ⟨b, off, eax⟩ : ∃ b off, ax = ⟨b, off, none⟩ := ⟨_, _, HI.out.rs.off ax rfl⟩
        subst eax
        have hcap := HI.out.rs.cap
        by_cases hlt : k < rl
        · obtain ⟨b', off', e', hj, g1⟩ := nums_get (HI.out.rs.below HT1.out.t2.below).nums (Below.refl _ _) (k := k) hlt
          cases e'
          by_cases hG : rs[k] < g
          · have hE : Hid (lowN g rs (k + 1)) := fun i hi h1 => by
              by_cases hik : i = k
              · subst hik; exact hG
              · exact hr.out i (by omega) h1
            obtain ⟨G1, eG⟩ : ∃ G, rs[k] = G := ⟨_, rfl⟩
            rw [eG] at g1 hG
            clear eG hr hend hj
            go_wp2
            exact ⟨⟨k + 1, by omega, by go_num, hE.out⟩, by simp [intOf]; omega⟩
          · have HK := hend (fun _ _ => by omega)
            obtain ⟨G1, eG⟩ : ∃ G, rs[k] = G := ⟨_, rfl⟩
            rw [eG] at g1 hG
            clear eG hr hend hj
            have hrck : k < rc := by omega
            have HTa : Hid (TO w w1 (W1.alloc (.cells #[] 2)) (txnObj p e s u (some ⟨b, off, none⟩) rl rc la ll lc) (txnObj 0 0 0 0 none 0 0 none 0 0) (txnObj p e s u a1 rl q1 b1 ll m1) b1 ll m1 (numCells ls)) := HT1.out.alloc _
            have HRW : Hid ((W1.alloc (.cells #[] 2)).ownsRow (w1.heap.size + 1) 2 1 (.slice (some ⟨w1.heap.size + 1, 0, none⟩) 0 0) 0 []) := by
              have h := t_row W1 2 1
              rw [hzW] at h
              exact h
            go_wp2_with (first
              | (at_builtin; refine wpList_append_own_any (by rfl) _ _ 23 (by rfl) (w1.heap.size + 1) 2 i0 _ 1 8 Tryz.underlying23 hi0 hz0 hz1 hz2 (by rfl) (by omega) (.slice (some ⟨w1.heap.size + 1, 0, none⟩) 0 0) 0 [] (by rfl) HRW.out (some ⟨b, off, none⟩) k rc (numCells (rs.take k)) (by rfl) (by rw [List.length_map, List.length_take, HL.out]; omega) (fun e' => by cases e') (nums_news (nums_take (HI.out.rs.below HTa.out.t2.below).nums (by omega))) (numCells_one _) (by unfold maxLen; omega) (by omega) HTa.out.size ?_; intro v2 w2 ho2 hg2; simp only [Nat.zero_add, List.nil_append] at ho2; have ht2 := HTa.out.grown hg2 (fun j e' => by simp [Value.ownBlock] at e'; omega); have HTb : Hid (TO w w1 (w2.alloc (.cells #[.int .i64 g] 2)) (txnObj p e s u (some ⟨b, off, none⟩) rl rc la ll lc) (txnObj 0 0 0 0 none 0 0 none 0 0) (txnObj p e s u a1 rl q1 b1 ll m1) b1 ll m1 (numCells ls)) := ht2.alloc _; have HO2 : Hid (w2.ownsRow (w1.heap.size + 1) 2 1 v2 k (numCells (rs.take k))) := ho2; clear ht2 ho2 hg2)
              | (at_builtin; refine wpList_append_own_any (by rfl) _ _ 23 (by rfl) (w1.heap.size + 1) 2 i0 _ 1 8 Tryz.underlying23 hi0 hz0 hz1 hz2 (by rfl) (by omega) v2 k (numCells (rs.take k)) (by rfl) (HO2.out.alloc _) (some ⟨w2.heap.size, 0, none⟩) 1 1 [.int .i64 g] (by rfl) (by rfl) (fun e' => by cases e') (fun ad e' => by cases e'; exact cell_one_new _ _ _) (by simp [Value.oneCell']) (by unfold maxLen; omega) (by omega) HTb.out.size ?_; intro v3 w3 ho3 hg3; have ht3 := HTb.out.grown hg3 (fun j e' => (HO2.out.lt j e').1); have HTc : Hid (TO w w1 w3 (txnObj p e s u (some ⟨b, off, none⟩) rl rc la ll lc) (txnObj 0 0 0 0 none 0 0 none 0 0) (txnObj p e s u a1 rl q1 b1 ll m1) b1 ll m1 (numCells ls)) := ht3; have hc3 := fun o => ht3.t2.cell0 o; have HO3 : Hid (w3.ownsRow (w1.heap.size + 1) 2 1 v3 (k + 1) (numCells (rs.take k) ++ [.int .i64 g])) := ho3; clear ht3 ho3 hg3)
              | (at_builtin; refine wpList_append_own_any (by rfl) _ _ 23 (by rfl) (w1.heap.size + 1) 2 i0 _ 1 8 Tryz.underlying23 hi0 hz0 hz1 hz2 (by rfl) (by omega) v3 (k + 1) (numCells (rs.take k) ++ [.int .i64 g]) (by rfl) HO3.out (some ⟨b, off + k, none⟩) (rl - k) (rc - k) (numCells (rs.drop k)) (by rfl) (by rw [List.length_map, List.length_drop, HL.out]; omega) (fun e' => by cases e') (nums_news (nums_drop (HI.out.rs.below HTc.out.t2.below).nums (by omega))) (numCells_one _) (by unfold maxLen; omega) (by omega) HTc.out.size ?_; intro v4 w4 ho4 hg4; have hf4 := with_finN ho4 (show k + 1 + (rl - k) = rl + 1 by omega); obtain ⟨a4, c4, rfl⟩ := own_numV hf4; have ht4 := HTc.out.grown hg4 (fun j e' => (HO3.out.lt j e').1); have hx4 := fun o => tcell ht4.bo o; have hy4 := fun o => tunfrozen ht4.bo o; have hd4 := fun o => ht4.t2.cell1 o; have hv4 := fun o => ht4.t2.free1 o; have HF : Hid _ := ht4.fin hf4 (.slice a4 (rl + 1) c4) (.int .i64 p) (.int .i64 e) (.int .i64 s) (.int .i64 u) (.slice a4 (rl + 1) c4) (.slice b1 ll m1); have HLN : Hid ((rs.take k ++ g :: rs.drop k).length = rl + 1) := (show _ = _ by have := HL.out; simp; omega); clear ht4 ho4 hg4 hf4))
            refine bodyPost_ret (v := txnV p e s u a4 (rl + 1) c4 b1 ll m1) (by simp [results, Tryz.results38, go_sem, hd4]) rfl ?_
            exact tans_ins (by rw [← HE.out, HK.out]) HLN.out HLC.out HF.out
        · obtain rfl : k = rl := by omega
          have HK := hend (fun h => by omega)
          clear hr hend
          by_cases hrk : rc = k
          · have hrk' := hrk.symm
            subst hrk'
            have HDR : Hid (rs.drop k = []) := List.drop_eq_nil_of_le (by rw [HL.out]; exact Nat.le_refl _)
            have HTa : Hid (TO w w1 (W1.alloc (.cells #[] 2)) (txnObj p e s u (some ⟨b, off, none⟩) k k la ll lc) (txnObj 0 0 0 0 none 0 0 none 0 0) (txnObj p e s u a1 k q1 b1 ll m1) b1 ll m1 (numCells ls)) := HT1.out.alloc _
            have HRW : Hid ((W1.alloc (.cells #[] 2)).ownsRow (w1.heap.size + 1) 2 1 (.slice (some ⟨w1.heap.size + 1, 0, none⟩) 0 0) 0 []) := by
              have h := t_row W1 2 1
              rw [hzW] at h
              exact h
            go_wp2_with (first
              | (at_builtin; refine wpList_append_own_any (by rfl) _ _ 23 (by rfl) (w1.heap.size + 1) 2 i0 _ 1 8 Tryz.underlying23 hi0 hz0 hz1 hz2 (by rfl) (by omega) (.slice (some ⟨w1.heap.size + 1, 0, none⟩) 0 0) 0 [] (by rfl) HRW.out (some ⟨b, off, none⟩) k k (numCells (rs.take k)) (by rfl) (by rw [List.length_map, List.length_take, HL.out]; omega) (fun e' => by cases e') (nums_news (nums_take (HI.out.rs.below HTa.out.t2.below).nums (by omega))) (numCells_one _) (by unfold maxLen; omega) (by omega) HTa.out.size ?_; intro v2 w2 ho2 hg2; simp only [Nat.zero_add, List.nil_append] at ho2; have ht2 := HTa.out.grown hg2 (fun j e' => by simp [Value.ownBlock] at e'; omega); have HTb : Hid (TO w w1 (w2.alloc (.cells #[.int .i64 g] 2)) (txnObj p e s u (some ⟨b, off, none⟩) k k la ll lc) (txnObj 0 0 0 0 none 0 0 none 0 0) (txnObj p e s u a1 k q1 b1 ll m1) b1 ll m1 (numCells ls)) := ht2.alloc _; have HO2 : Hid (w2.ownsRow (w1.heap.size + 1) 2 1 v2 k (numCells (rs.take k))) := ho2; clear ht2 ho2 hg2)
              | (at_builtin; refine wpList_append_own_any (by rfl) _ _ 23 (by rfl) (w1.heap.size + 1) 2 i0 _ 1 8 Tryz.underlying23 hi0 hz0 hz1 hz2 (by rfl) (by omega) v2 k (numCells (rs.take k)) (by rfl) (HO2.out.alloc _) (some ⟨w2.heap.size, 0, none⟩) 1 1 [.int .i64 g] (by rfl) (by rfl) (fun e' => by cases e') (fun ad e' => by cases e'; exact cell_one_new _ _ _) (by simp [Value.oneCell']) (by unfold maxLen; omega) (by omega) HTb.out.size ?_; intro v3 w3 ho3 hg3; have ht3 := HTb.out.grown hg3 (fun j e' => (HO2.out.lt j e').1); have HTc : Hid (TO w w1 w3 (txnObj p e s u (some ⟨b, off, none⟩) k k la ll lc) (txnObj 0 0 0 0 none 0 0 none 0 0) (txnObj p e s u a1 k q1 b1 ll m1) b1 ll m1 (numCells ls)) := ht3; have hc3 := fun o => ht3.t2.cell0 o; have HO3 : Hid (w3.ownsRow (w1.heap.size + 1) 2 1 v3 (k + 1) (numCells (rs.take k) ++ [.int .i64 g])) := ho3; clear ht3 ho3 hg3)
              | (at_builtin; refine wpList_append_own_any (by rfl) _ _ 23 (by rfl) (w1.heap.size + 1) 2 i0 _ 1 8 Tryz.underlying23 hi0 hz0 hz1 hz2 (by rfl) (by omega) v3 (k + 1) (numCells (rs.take k) ++ [.int .i64 g]) (by rfl) HO3.out (some ⟨b, off, none⟩) 0 0 (numCells (rs.drop k)) (by rfl) (by rw [HDR.out]; rfl) (fun e' => by cases e') (fun ad e' j v hv => by rw [HDR.out] at hv; simp at hv) (numCells_one _) (by unfold maxLen; omega) (by omega) HTc.out.size ?_; intro v4 w4 ho4 hg4; have hf4 := with_finN ho4 (show k + 1 + 0 = k + 1 by omega); obtain ⟨a4, c4, rfl⟩ := own_numV hf4; have ht4 := HTc.out.grown hg4 (fun j e' => (HO3.out.lt j e').1); have hx4 := fun o => tcell ht4.bo o; have hy4 := fun o => tunfrozen ht4.bo o; have hd4 := fun o => ht4.t2.cell1 o; have hv4 := fun o => ht4.t2.free1 o; have HF : Hid _ := ht4.fin hf4 (.slice a4 (k + 1) c4) (.int .i64 p) (.int .i64 e) (.int .i64 s) (.int .i64 u) (.slice a4 (k + 1) c4) (.slice b1 ll m1); have HLN : Hid ((rs.take k ++ g :: rs.drop k).length = k + 1) := (show _ = _ by have := HL.out; simp; omega); clear ht4 ho4 hg4 hf4))
            refine bodyPost_ret (v := txnV p e s u a4 (k + 1) c4 b1 ll m1) (by simp [results, Tryz.results38, go_sem, hd4]) rfl ?_
            exact tans_ins (by rw [← HE.out, HK.out]) HLN.out HLC.out HF.out
          · have hrck : k < rc := by omega
            have HDR : Hid (rs.drop k = []) := List.drop_eq_nil_of_le (by rw [HL.out]; exact Nat.le_refl _)
            have HTa : Hid (TO w w1 (W1.alloc (.cells #[] 2)) (txnObj p e s u (some ⟨b, off, none⟩) k rc la ll lc) (txnObj 0 0 0 0 none 0 0 none 0 0) (txnObj p e s u a1 k q1 b1 ll m1) b1 ll m1 (numCells ls)) := HT1.out.alloc _
            have HRW : Hid ((W1.alloc (.cells #[] 2)).ownsRow (w1.heap.size + 1) 2 1 (.slice (some ⟨w1.heap.size + 1, 0, none⟩) 0 0) 0 []) := by
              have h := t_row W1 2 1
              rw [hzW] at h
              exact h
            go_wp2_with (first
              | (at_builtin; refine wpList_append_own_any (by rfl) _ _ 23 (by rfl) (w1.heap.size + 1) 2 i0 _ 1 8 Tryz.underlying23 hi0 hz0 hz1 hz2 (by rfl) (by omega) (.slice (some ⟨w1.heap.size + 1, 0, none⟩) 0 0) 0 [] (by rfl) HRW.out (some ⟨b, off, none⟩) k rc (numCells (rs.take k)) (by rfl) (by rw [List.length_map, List.length_take, HL.out]; omega) (fun e' => by cases e') (nums_news (nums_take (HI.out.rs.below HTa.out.t2.below).nums (by omega))) (numCells_one _) (by unfold maxLen; omega) (by omega) HTa.out.size ?_; intro v2 w2 ho2 hg2; simp only [Nat.zero_add, List.nil_append] at ho2; have ht2 := HTa.out.grown hg2 (fun j e' => by simp [Value.ownBlock] at e'; omega); have HTb : Hid (TO w w1 (w2.alloc (.cells #[.int .i64 g] 2)) (txnObj p e s u (some ⟨b, off, none⟩) k rc la ll lc) (txnObj 0 0 0 0 none 0 0 none 0 0) (txnObj p e s u a1 k q1 b1 ll m1) b1 ll m1 (numCells ls)) := ht2.alloc _; have HO2 : Hid (w2.ownsRow (w1.heap.size + 1) 2 1 v2 k (numCells (rs.take k))) := ho2; clear ht2 ho2 hg2)
              | (at_builtin; refine wpList_append_own_any (by rfl) _ _ 23 (by rfl) (w1.heap.size + 1) 2 i0 _ 1 8 Tryz.underlying23 hi0 hz0 hz1 hz2 (by rfl) (by omega) v2 k (numCells (rs.take k)) (by rfl) (HO2.out.alloc _) (some ⟨w2.heap.size, 0, none⟩) 1 1 [.int .i64 g] (by rfl) (by rfl) (fun e' => by cases e') (fun ad e' => by cases e'; exact cell_one_new _ _ _) (by simp [Value.oneCell']) (by unfold maxLen; omega) (by omega) HTb.out.size ?_; intro v3 w3 ho3 hg3; have ht3 := HTb.out.grown hg3 (fun j e' => (HO2.out.lt j e').1); have HTc : Hid (TO w w1 w3 (txnObj p e s u (some ⟨b, off, none⟩) k rc la ll lc) (txnObj 0 0 0 0 none 0 0 none 0 0) (txnObj p e s u a1 k q1 b1 ll m1) b1 ll m1 (numCells ls)) := ht3; have hc3 := fun o => ht3.t2.cell0 o; have HO3 : Hid (w3.ownsRow (w1.heap.size + 1) 2 1 v3 (k + 1) (numCells (rs.take k) ++ [.int .i64 g])) := ho3; clear ht3 ho3 hg3)
              | (at_builtin; refine wpList_append_own_any (by rfl) _ _ 23 (by rfl) (w1.heap.size + 1) 2 i0 _ 1 8 Tryz.underlying23 hi0 hz0 hz1 hz2 (by rfl) (by omega) v3 (k + 1) (numCells (rs.take k) ++ [.int .i64 g]) (by rfl) HO3.out (some ⟨b, off + k, none⟩) 0 (rc - k) (numCells (rs.drop k)) (by rfl) (by rw [HDR.out]; rfl) (fun e' => by cases e') (fun ad e' j v hv => by rw [HDR.out] at hv; simp at hv) (numCells_one _) (by unfold maxLen; omega) (by omega) HTc.out.size ?_; intro v4 w4 ho4 hg4; have hf4 := with_finN ho4 (show k + 1 + 0 = k + 1 by omega); obtain ⟨a4, c4, rfl⟩ := own_numV hf4; have ht4 := HTc.out.grown hg4 (fun j e' => (HO3.out.lt j e').1); have hx4 := fun o => tcell ht4.bo o; have hy4 := fun o => tunfrozen ht4.bo o; have hd4 := fun o => ht4.t2.cell1 o; have hv4 := fun o => ht4.t2.free1 o; have HF : Hid _ := ht4.fin hf4 (.slice a4 (k + 1) c4) (.int .i64 p) (.int .i64 e) (.int .i64 s) (.int .i64 u) (.slice a4 (k + 1) c4) (.slice b1 ll m1); have HLN : Hid ((rs.take k ++ g :: rs.drop k).length = k + 1) := (show _ = _ by have := HL.out; simp; omega); clear ht4 ho4 hg4 hf4))
            refine bodyPost_ret (v := txnV p e s u a4 (k + 1) c4 b1 ll m1) (by simp [results, Tryz.results38, go_sem, hd4]) rfl ?_
            exact tans_ins (by rw [← HE.out, HK.out]) HLN.out HLC.out HF.out
  · have HE : Hid _ := H1.out (by simp)
    clear H1 H2 HHA
    go_wp2
    refine bodyPost_ret (v := txnV p e s u a1 rl q1 b1 ll m1) (by simp [results, Tryz.results38, go_sem, hd1]) rfl ?_
    rw [HE.out]
    exact tans_fin HL.out HLC.out HO1'.out (Nat.le_refl _) HT1.out.t2.below _ _ _ _ _ _
end Go.Proofs.YtahccighonddaaaGreatDoor
