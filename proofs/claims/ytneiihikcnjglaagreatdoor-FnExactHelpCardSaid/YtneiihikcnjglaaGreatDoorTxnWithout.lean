import Derived.Test.YtneiihikcnjglaaGreatDoorLawTxn1
import Derived.Test.YtneiihikcnjglaaGreatDoorAppendMore
/- Copies of transactions in new memory: the program's and the specification's. -/
namespace Go.Proofs.YtneiihikcnjglaaGreatDoor
open Go.RowKit
variable {p e s u : Int} {ra la : Option Addr} {rl rc ll lc : Nat}

/-- What is handed in of a transaction, fit to be cut. -/
structure TnFit (w : World) (ra : Option Addr) (rl rc : Nat) (la : Option Addr) (ll lc : Nat) (rs ls : List Int) : Prop where
  rs : NumIn w ra rl rc rs
  ls : NumIn w la ll lc ls
  rle : rl ≤ 1048576
  lle : ll ≤ 1048576
  rcm : rc ≤ maxLen
  lcm : lc ≤ maxLen
theorem TnFit.below {w w' : World} {rs ls : List Int} (h : TnFit w ra rl rc la ll lc rs ls) (hb : Below w.heap.size w w') : TnFit w' ra rl rc la ll lc rs ls := ⟨h.rs.below hb, h.ls.below hb, h.rle, h.lle, h.rcm, h.lcm⟩
theorem TnFit.tin {w : World} {rs ls : List Int} (h : TnFit w ra rl rc la ll lc rs ls) : TIn w ra rl la ll rs ls := ⟨h.rs.nums, h.ls.nums, h.rle, h.lle⟩
/-- Three boxes at the front. -/
structure T3 (w wr : World) (o0 o1 o2 : Obj) : Prop where
  b0 : wr.heap[w.heap.size]? = some o0
  b1 : wr.heap[w.heap.size + 1]? = some o1
  b2 : wr.heap[w.heap.size + 1 + 1]? = some o2
  below : Below w.heap.size w wr
  size : w.heap.size + 3 ≤ wr.heap.size
theorem t3_start (w : World) (o0 o1 o2 : Obj) : T3 w (((w.alloc o0).alloc o1).alloc o2) o0 o1 o2 := by
  refine ⟨?_, ?_, ?_, (((Below.refl _ _).alloc (Nat.le_refl _) _).alloc (by simp) _).alloc (by simp; omega) _, by simp⟩
  · exact (Below.heap_alloc _ _ _ (by simp; omega)).trans ((Below.heap_alloc _ _ _ (by simp)).trans (heap_alloc_new _ _))
  · have h := heap_alloc_new (w.alloc o0) o1
    rw [World.size_alloc] at h
    exact (Below.heap_alloc _ _ _ (by simp)).trans h
  · have h := heap_alloc_new ((w.alloc o0).alloc o1) o2
    rw [World.size_alloc, World.size_alloc] at h
    exact h
theorem T3.grown {w wr wx : World} {o0 o1 o2 : Obj} {row : Option Nat} (h : T3 w wr o0 o1 o2) (hg : wr.grownBy wx row) (hr : ∀ j, row = some j → w.heap.size + 3 ≤ j) : T3 w wx o0 o1 o2 := by
  have hz := h.size
  have hne : ∀ i, i < w.heap.size + 3 → some i ≠ row := fun i hi e => by have := hr i e.symm; omega
  exact ⟨(hg.block _ (by omega) (hne _ (by omega))).trans h.b0, (hg.block _ (by omega) (hne _ (by omega))).trans h.b1, (hg.block _ (by omega) (hne _ (by omega))).trans h.b2, h.below.grown hg (by omega) (fun j e => by have := hr j e; omega), Nat.le_trans h.size hg.size⟩
theorem T3.set2 {w wr : World} {o0 o1 : Obj} {C : Array Value} {t : TypeId} (h : T3 w wr o0 o1 (.cells C t (0, 0))) (k : Nat) (v : Value) : T3 w (wr.setCell ⟨w.heap.size + 1 + 1, k, none⟩ v) o0 o1 (.cells (C.setIfInBounds k v) t (0, 0)) :=
  ⟨(Below.heap_setCell wr ⟨w.heap.size + 1 + 1, k, none⟩ _ w.heap.size (show w.heap.size ≠ w.heap.size + 1 + 1 by omega)).trans h.b0, (Below.heap_setCell wr ⟨w.heap.size + 1 + 1, k, none⟩ _ (w.heap.size + 1) (show w.heap.size + 1 ≠ w.heap.size + 1 + 1 by omega)).trans h.b1, heap_setCell_same wr (w.heap.size + 1 + 1) k _ _ _ h.b2, h.below.setCell (p := ⟨w.heap.size + 1 + 1, k, none⟩) (show w.heap.size ≤ w.heap.size + 1 + 1 by omega) _, by simpa [World.setCell] using h.size⟩
theorem t3_end {w w2 w4 : World} {o0 o1 o2 : Obj} {a b : Option Addr} {n q m r base : Nat} {xs ys : List Value} {v v5 v0 v1 v2' v3 v4 v6 : Value} (h : T3 w w4 o0 o1 o2) (hx : w2.ownsRow base 2 1 (.slice a n q) n xs) (hb : w.heap.size + 3 ≤ base)
    (hy : w4.ownsRow w2.heap.size 2 1 (.slice b m r) m ys) (hz : w.heap.size + 3 ≤ w2.heap.size) (hg : (w2.setCell ⟨w.heap.size + 1 + 1, 4, none⟩ v).grownBy w4 none) :
    OwnTxn (tset6 (w4.setCell ⟨w.heap.size + 1 + 1, 5, none⟩ v5) (w.heap.size + 1) v0 v1 v2' v3 v4 v6) w.heap.size a n q b m r xs ys ∧ Below w.heap.size w (tset6 (w4.setCell ⟨w.heap.size + 1 + 1, 5, none⟩ v5) (w.heap.size + 1) v0 v1 v2' v3 v4 v6) := by
  have k0 : w.heap.size + 1 + 1 < base := by omega
  have k1 : w.heap.size + 1 < base := by omega
  have k2 : w.heap.size + 1 + 1 < w2.heap.size := by omega
  have k3 : w.heap.size + 1 < w2.heap.size := by omega
  have hx1 := (ownsRow_setCell_below hx (a := ⟨w.heap.size + 1 + 1, 4, none⟩) k0 v).kept hg (by cases (Value.slice a n q).ownBlock <;> simp)
  refine ⟨⟨?_, ?_, ?_⟩, ?_⟩
  · exact (own_set6 (ownsRow_setCell_below hx1 (a := ⟨w.heap.size + 1 + 1, 5, none⟩) k0 _) (w.heap.size + 1) k1 _ _ _ _ _ _).mono (by omega)
  · exact (own_set6 (ownsRow_setCell_below hy (a := ⟨w.heap.size + 1 + 1, 5, none⟩) k2 _) (w.heap.size + 1) k3 _ _ _ _ _ _).mono (by omega)
  · intro g h1 h2
    have := (hx.lt g h1).2
    have := (hy.lt g h2).1
    omega
  · exact below_set6 (h.below.setCell (p := ⟨w.heap.size + 1 + 1, 5, none⟩) (show w.heap.size ≤ w.heap.size + 1 + 1 by omega) _) (w.heap.size + 1) (show w.heap.size ≤ w.heap.size + 1 by omega) _ _ _ _ _ _
set_option maxRecDepth 100000 in
set_option maxHeartbeats 4000000 in
theorem impl_copyTxn (rs ls : List Int) (w : World) (hi : NumIn w ra rl rc rs) (hj : NumIn w la ll lc ls) (hrl : rl ≤ 1048577) (hll : ll ≤ 1048577) :
    Calls Tryz.prog 172 #[txnV p e s u ra rl rc la ll lc] w fun x w' => ∃ a q b m, x = .returned (txnV p e s u a rl q b ll m) ∧ OwnTxn w' w.heap.size a rl q b ll m (numCells rs) (numCells ls) ∧ Below w.heap.size w w' := by
  obtain ⟨i0, hi0, hz0, hz1, hz2⟩ := info_parts info_i64
  have HR : Hid (NumIn w ra rl rc rs) := hi
  have HC : Hid (NumIn w la ll lc ls) := hj
  have HL : Hid (rs.length = rl) := hi.nums.1
  have HLC : Hid (ls.length = ll) := hj.nums.1
  clear hi hj
  go_enter Tryz.func172, Tryz.ntmps172
  have HS0 : Hid (T3 w (((w.alloc (txnObj p e s u ra rl rc la ll lc)).alloc (txnObj 0 0 0 0 none 0 0 none 0 0)).alloc (txnObj p e s u ra rl rc la ll lc)) (txnObj p e s u ra rl rc la ll lc) (txnObj 0 0 0 0 none 0 0 none 0 0) (txnObj p e s u ra rl rc la ll lc)) := t3_start ..
  go_wp2_with (first
    | (at_builtin; refine wpList_append_own_any (by rfl) _ _ 23 (by rfl) (w.heap.size + 3) 2 i0 _ 1 8 Tryz.underlying23 hi0 hz0 hz1 hz2 (by rfl) (by omega) (.slice none 0 0) 0 [] (by rfl) (World.ownsRow_nil _ _ _ _) ra rl rc (numCells rs) (by rfl) (by rw [List.length_map, HL.out]; omega) HR.out.nil (nums_news (nums_below HR.out.nums HS0.out.below)) (numCells_one _) (by unfold maxLen; omega) (by omega) HS0.out.size ?_; intro v1 w2 ho2 hg2; simp only [Nat.zero_add, List.nil_append] at ho2; obtain ⟨a1, c1, rfl⟩ := own_numV ho2; have hs2 := HS0.out.grown hg2 (fun j e => by simp [Value.ownBlock] at e); have g0 := fun o => tcell hs2.b0 o; have g2 := fun o => tcell hs2.b2 o; have f2 := fun o => tunfrozen hs2.b2 o; have HS3 : Hid (T3 w (w2.setCell ⟨w.heap.size + 1 + 1, 4, none⟩ (.slice a1 rl c1)) (txnObj p e s u ra rl rc la ll lc) (txnObj 0 0 0 0 none 0 0 none 0 0) (txnObj p e s u a1 rl c1 la ll lc)) := hs2.set2 4 (.slice a1 rl c1); have HO2 : Hid (w2.ownsRow (w.heap.size + 3) 2 1 (.slice a1 rl c1) rl (numCells rs)) := ho2; have hz2' : Hid (w.heap.size + 3 ≤ w2.heap.size) := hs2.size; have hz3' : w.heap.size + 1 + 1 < w2.heap.size := (by have := hz2'.out; omega); clear hs2 hg2 ho2)
    | (at_builtin; refine wpList_append_own_any (by rfl) _ _ 23 (by rfl) w2.heap.size 2 i0 _ 1 8 Tryz.underlying23 hi0 hz0 hz1 hz2 (by rfl) (by omega) (.slice none 0 0) 0 [] (by rfl) (World.ownsRow_nil _ _ _ _) la ll lc (numCells ls) (by rfl) (by rw [List.length_map, HLC.out]; omega) HC.out.nil (nums_news (nums_below HC.out.nums HS3.out.below)) (numCells_one _) (by unfold maxLen; omega) (by omega) (by simp [World.setCell]) ?_; intro v3 w4 ho4 hg4; simp only [Nat.zero_add, List.nil_append] at ho4; obtain ⟨a3, c3, rfl⟩ := own_numV ho4; have hs4 := HS3.out.grown hg4 (fun j e => by simp [Value.ownBlock] at e); have g4 := fun o => tcell hs4.b2 o; have f4 := fun o => tunfrozen hs4.b2 o; have g5 := fun o => tcell hs4.b1 o; have f5 := fun o => tunfrozen hs4.b1 o; have HF : Hid _ := t3_end (v5 := .slice a3 ll c3) (v0 := .int .i64 p) (v1 := .int .i64 e) (v2' := .int .i64 s) (v3 := .int .i64 u) (v4 := .slice a1 rl c1) (v6 := .slice a3 ll c3) hs4 HO2.out (Nat.le_refl _) ho4 hz2'.out hg4; clear hs4 hg4 ho4 g0 g2 f2))
  obtain ⟨hx, hy⟩ := HF.out
  exact bodyPost_ret (v := txnV p e s u a1 rl c1 a3 ll c3) (by simp [results, Tryz.results172, go_sem, g5]) rfl ⟨a1, c1, a3, c3, rfl, hx, hy⟩
end Go.Proofs.YtneiihikcnjglaaGreatDoor
/- The specification's copies of transactions, and of one that ends. -/
namespace Go.Proofs.YtneiihikcnjglaaGreatDoor
open Go.RowKit
variable {p e s u : Int} {ra la : Option Addr} {rl rc ll lc : Nat}

/-- Two boxes at the front. -/
structure T2 (w wr : World) (o0 o1 : Obj) : Prop where
  b0 : wr.heap[w.heap.size]? = some o0
  b1 : wr.heap[w.heap.size + 1]? = some o1
  below : Below w.heap.size w wr
  size : w.heap.size + 2 ≤ wr.heap.size
theorem t2_start (w : World) (o0 o1 : Obj) : T2 w ((w.alloc o0).alloc o1) o0 o1 := by
  refine ⟨(Below.heap_alloc _ _ _ (by simp)).trans (heap_alloc_new _ _), ?_, ((Below.refl _ _).alloc (Nat.le_refl _) _).alloc (by simp) _, by simp⟩
  have h := heap_alloc_new (w.alloc o0) o1
  rwa [World.size_alloc] at h
theorem T2.grown {w wr wx : World} {o0 o1 : Obj} {row : Option Nat} (h : T2 w wr o0 o1) (hg : wr.grownBy wx row) (hr : ∀ j, row = some j → w.heap.size + 2 ≤ j) : T2 w wx o0 o1 := by
  have hz := h.size
  have hne : ∀ i, i < w.heap.size + 2 → some i ≠ row := fun i hi e => by have := hr i e.symm; omega
  exact ⟨(hg.block _ (by omega) (hne _ (by omega))).trans h.b0, (hg.block _ (by omega) (hne _ (by omega))).trans h.b1, h.below.grown hg (by omega) (fun j e => by have := hr j e; omega), Nat.le_trans h.size hg.size⟩
theorem T2.under {w wr wx : World} {o0 o1 : Obj} (h : T2 w wr o0 o1) (hb : Below wr.heap.size wr wx) : T2 w wx o0 o1 := h.grown (tbelow_grown hb) (fun j e => by cases e)
theorem T2.alloc {w wr : World} {o0 o1 : Obj} (h : T2 w wr o0 o1) (o : Obj) : T2 w (wr.alloc o) o0 o1 := h.under (tbelow_new _ _)
theorem T2.set0 {w wr : World} {o1 : Obj} {C : Array Value} {t : TypeId} (h : T2 w wr (.cells C t (0, 0)) o1) (k : Nat) (v : Value) : T2 w (wr.setCell ⟨w.heap.size, k, none⟩ v) (.cells (C.setIfInBounds k v) t (0, 0)) o1 :=
  ⟨heap_setCell_same wr w.heap.size k _ _ _ h.b0, (Below.heap_setCell wr ⟨w.heap.size, k, none⟩ _ (w.heap.size + 1) (show w.heap.size + 1 ≠ w.heap.size by omega)).trans h.b1, h.below.setCell (p := ⟨w.heap.size, k, none⟩) (Nat.le_refl _) _, by simpa [World.setCell] using h.size⟩
theorem T2.cell0 {w wr : World} {o1 : Obj} {C : Array Value} {t : TypeId} (h : T2 w wr (.cells C t (0, 0)) o1) (o : Nat) : wr.cell? ⟨w.heap.size, o, none⟩ = C[o]? := tcell h.b0 o
theorem T2.cell1 {w wr : World} {o0 : Obj} {C : Array Value} {t : TypeId} (h : T2 w wr o0 (.cells C t (0, 0))) (o : Nat) : wr.cell? ⟨w.heap.size + 1, o, none⟩ = C[o]? := tcell h.b1 o
theorem T2.free1 {w wr : World} {o0 : Obj} {C : Array Value} {t : TypeId} (h : T2 w wr o0 (.cells C t (0, 0))) (o : Nat) : wr.frozen? ⟨w.heap.size + 1, o, none⟩ = false := tunfrozen h.b1 o
/-- An empty row of one's own, just laid. -/
theorem t_row (w : World) (t : TypeId) (size : Nat) : (w.alloc (.cells #[] t)).ownsRow w.heap.size t size (.slice (some ⟨w.heap.size, 0, none⟩) 0 0) 0 [] := by
  have h := World.ownsRow_lit (base := w.heap.size) (e := t) (size := size) w #[] 0 (by simp) (by unfold maxLen; omega) (by simp)
  simpa using h
theorem t_row2 (w : World) (o o' : Obj) (t : TypeId) (size : Nat) : (((w.alloc o).alloc o').alloc (.cells #[] t)).ownsRow (w.heap.size + 2) t size (.slice (some ⟨w.heap.size + 1 + 1, 0, none⟩) 0 0) 0 [] := by
  have h := t_row ((w.alloc o).alloc o') t size
  simpa using h
theorem t_rowS (w : World) (q : Addr) (v : Value) (t : TypeId) (size : Nat) : ((w.setCell q v).alloc (.cells #[] t)).ownsRow w.heap.size t size (.slice (some ⟨w.heap.size, 0, none⟩) 0 0) 0 [] := by
  have h := t_row (w.setCell q v) t size
  simpa [World.setCell] using h
theorem t2_end {w w2 w4 : World} {o0 o1 o : Obj} {a b : Option Addr} {n q m r : Nat} {xs ys : List Value} {v v5 v0 v1 v2' v3 v4 v6 : Value} (h : T2 w w4 o0 o1) (hx : w2.ownsRow (w.heap.size + 2) 2 1 (.slice a n q) n xs)
    (hy : w4.ownsRow w2.heap.size 2 1 (.slice b m r) m ys) (hz : w.heap.size + 2 ≤ w2.heap.size) (hg : ((w2.setCell ⟨w.heap.size, 4, none⟩ v).alloc o).grownBy w4 (Value.slice (some ⟨w2.heap.size, 0, none⟩) 0 0).ownBlock) :
    OwnTxn (tset6 (w4.setCell ⟨w.heap.size, 5, none⟩ v5) (w.heap.size + 1) v0 v1 v2' v3 v4 v6) w.heap.size a n q b m r xs ys ∧ Below w.heap.size w (tset6 (w4.setCell ⟨w.heap.size, 5, none⟩ v5) (w.heap.size + 1) v0 v1 v2' v3 v4 v6) := by
  have k0 : w.heap.size < w.heap.size + 2 := by omega
  have k1 : w.heap.size + 1 < w.heap.size + 2 := by omega
  have k2 : w.heap.size < w2.heap.size := by omega
  have k3 : w.heap.size + 1 < w2.heap.size := by omega
  have hx1 := ((ownsRow_setCell_below hx (a := ⟨w.heap.size, 4, none⟩) k0 v).alloc o).kept hg (by
    cases hq : (Value.slice a n q).ownBlock with
    | none => exact .inl rfl
    | some g =>
      right
      have := (hx.lt g hq).2
      intro e'
      simp [Value.ownBlock] at e'
      omega)
  refine ⟨⟨?_, ?_, ?_⟩, ?_⟩
  · exact (own_set6 (ownsRow_setCell_below hx1 (a := ⟨w.heap.size, 5, none⟩) k0 _) (w.heap.size + 1) k1 _ _ _ _ _ _).mono (by omega)
  · exact (own_set6 (ownsRow_setCell_below hy (a := ⟨w.heap.size, 5, none⟩) k2 _) (w.heap.size + 1) k3 _ _ _ _ _ _).mono (by omega)
  · intro g h1 h2
    have := (hx.lt g h1).2
    have := (hy.lt g h2).1
    omega
  · exact below_set6 (h.below.setCell (p := ⟨w.heap.size, 5, none⟩) (Nat.le_refl _) _) (w.heap.size + 1) (show w.heap.size ≤ w.heap.size + 1 by omega) _ _ _ _ _ _
set_option maxRecDepth 100000 in
set_option maxHeartbeats 4000000 in
theorem spec_tcopy (rs ls : List Int) (w : World) (hi : NumIn w ra rl rc rs) (hj : NumIn w la ll lc ls) (hrl : rl ≤ 1048577) (hll : ll ≤ 1048577) :
    Calls Tryz.prog 110 #[txnV p e s u ra rl rc la ll lc] w fun x w' => ∃ a q b m, x = .returned (txnV p e s u a rl q b ll m) ∧ OwnTxn w' w.heap.size a rl q b ll m (numCells rs) (numCells ls) ∧ Below w.heap.size w w' := by
  obtain ⟨i0, hi0, hz0, hz1, hz2⟩ := info_parts info_i64
  have HR : Hid (NumIn w ra rl rc rs) := hi
  have HC : Hid (NumIn w la ll lc ls) := hj
  have HL : Hid (rs.length = rl) := hi.nums.1
  have HLC : Hid (ls.length = ll) := hj.nums.1
  clear hi hj
  go_enter Tryz.func110, Tryz.ntmps110
  have HS0 : Hid (T2 w (((w.alloc (txnObj p e s u ra rl rc la ll lc)).alloc (txnObj 0 0 0 0 none 0 0 none 0 0)).alloc (.cells #[] 2)) (txnObj p e s u ra rl rc la ll lc) (txnObj 0 0 0 0 none 0 0 none 0 0)) := (t2_start ..).alloc _
  go_wp2_with (first
    | (at_builtin; refine wpList_append_own_any (by rfl) _ _ 23 (by rfl) (w.heap.size + 2) 2 i0 _ 1 8 Tryz.underlying23 hi0 hz0 hz1 hz2 (by rfl) (by omega) (.slice (some ⟨w.heap.size + 1 + 1, 0, none⟩) 0 0) 0 [] (by rfl) (t_row2 _ _ _ _ _) ra rl rc (numCells rs) (by rfl) (by rw [List.length_map, HL.out]; omega) HR.out.nil (nums_news (nums_below HR.out.nums HS0.out.below)) (numCells_one _) (by unfold maxLen; omega) (by omega) (by simp) ?_; intro v1 w2 ho2 hg2; simp only [Nat.zero_add, List.nil_append] at ho2; obtain ⟨a1, c1, rfl⟩ := own_numV ho2; have hs2 := HS0.out.grown hg2 (fun j e => by simp [Value.ownBlock] at e; omega); have g0 := fun o => tcell hs2.b0 o; have f0 := fun o => tunfrozen hs2.b0 o; have HS3 : Hid (T2 w ((w2.setCell ⟨w.heap.size, 4, none⟩ (.slice a1 rl c1)).alloc (.cells #[] 2)) (txnObj p e s u a1 rl c1 la ll lc) (txnObj 0 0 0 0 none 0 0 none 0 0)) := (hs2.set0 4 (.slice a1 rl c1)).alloc _; have HO2 : Hid (w2.ownsRow (w.heap.size + 2) 2 1 (.slice a1 rl c1) rl (numCells rs)) := ho2; have hz2' : Hid (w.heap.size + 2 ≤ w2.heap.size) := hs2.size; have hz3' : w.heap.size < w2.heap.size := (by have := hz2'.out; omega); clear hs2 hg2 ho2)
    | (at_builtin; refine wpList_append_own_any (by rfl) _ _ 23 (by rfl) w2.heap.size 2 i0 _ 1 8 Tryz.underlying23 hi0 hz0 hz1 hz2 (by rfl) (by omega) (.slice (some ⟨w2.heap.size, 0, none⟩) 0 0) 0 [] (by rfl) (t_rowS _ _ _ _ _) la ll lc (numCells ls) (by rfl) (by rw [List.length_map, HLC.out]; omega) HC.out.nil (nums_news (nums_below HC.out.nums HS3.out.below)) (numCells_one _) (by unfold maxLen; omega) (by omega) (by simp [World.setCell]) ?_; intro v3 w4 ho4 hg4; simp only [Nat.zero_add, List.nil_append] at ho4; obtain ⟨a3, c3, rfl⟩ := own_numV ho4; have hs4 := HS3.out.grown hg4 (fun j e => by have := hz2'.out; simp [Value.ownBlock] at e; omega); have g4 := fun o => tcell hs4.b0 o; have f4 := fun o => tunfrozen hs4.b0 o; have g5 := fun o => tcell hs4.b1 o; have f5 := fun o => tunfrozen hs4.b1 o; have HF : Hid _ := t2_end (v5 := .slice a3 ll c3) (v0 := .int .i64 p) (v1 := .int .i64 e) (v2' := .int .i64 s) (v3 := .int .i64 u) (v4 := .slice a1 rl c1) (v6 := .slice a3 ll c3) hs4 HO2.out ho4 hz2'.out hg4; clear hs4 hg4 ho4 g0 f0))
  obtain ⟨hx, hy⟩ := HF.out
  exact bodyPost_ret (v := txnV p e s u a1 rl c1 a3 ll c3) (by simp [results, Tryz.results110, go_sem, g5]) rfl ⟨a1, c1, a3, c3, rfl, hx, hy⟩
end Go.Proofs.YtneiihikcnjglaaGreatDoor
/- TxnEnd, of the specification and of the program. -/
namespace Go.Proofs.YtneiihikcnjglaaGreatDoor
open Go.RowKit
variable {p e s u : Int} {ra la : Option Addr} {rl rc ll lc : Nat}

end Go.Proofs.YtneiihikcnjglaaGreatDoor
/- Rows of numbers cut, and with one more. -/
namespace Go.Proofs.YtneiihikcnjglaaGreatDoor
open Go.RowKit

/-- Where a slice of numbers begins that is cut from i to j. -/
def ncutAt (a : Option Addr) (i j : Nat) : Option Addr := if j = i then a else a.map fun x => ⟨x.block, x.off + i, none⟩
theorem cut_nums {w : World} {a : Option Addr} {n i j : Nat} {l : List Int} (h : Nums w a n l) (hij : i ≤ j) (hj : j ≤ n) : Nums w (ncutAt a i j) (j - i) ((l.drop i).take (j - i)) := by
  have hl : l.length = n := h.1
  refine ⟨by simp; omega, fun k hk => ?_⟩
  have hk' : k < j - i := by simp at hk; omega
  obtain ⟨b, off, e, hc⟩ := h.2 (i + k) (by omega)
  refine ⟨b, off + i, ?_, ?_⟩
  · unfold ncutAt; rw [if_neg (by omega), e]; rfl
  · rw [show off + i + k = off + (i + k) by omega, hc]; simp
set_option maxHeartbeats 1000000 in
theorem impl_cutN (a : Option Addr) (n c i j : Nat) (w : World) (hij : i ≤ j) (hj : j ≤ n) (hc : n ≤ c) (hm : c ≤ maxLen) (hnil : a = none → n = 0 ∧ c = 0) (hoff : ∀ x, a = some x → x = ⟨x.block, x.off, none⟩) :
    Calls Tryz.prog 240 #[.slice a n c, .int .i64 i, .int .i64 j] w fun x w' => x = .returned (.slice (ncutAt a i j) (j - i) (j - i)) ∧ w' = w := by
  unfold maxLen at hm
  cases a with
  | some x =>
    obtain ⟨b, off, e⟩ : ∃ b off, x = ⟨b, off, none⟩ := ⟨_, _, hoff x rfl⟩
    subst e
    clear hnil hoff
    by_cases h : j = i
    · subst h
      go_enter Tryz.func240, Tryz.ntmps240
      go_wp2
      go_ret
      refine ⟨?_, rfl⟩
      simp [ncutAt]
    · have hE : Hid (ncutAt (some ⟨b, off, none⟩) i j = some ⟨b, off + i, none⟩) := show _ = _ by simp [ncutAt, h]
      go_enter Tryz.func240, Tryz.ntmps240
      go_wp2
      go_ret
      refine ⟨?_, rfl⟩
      rw [hE.out]
      rfl
  | none =>
    obtain ⟨rfl, rfl⟩ := hnil rfl
    obtain rfl : j = 0 := by omega
    obtain rfl : i = 0 := by omega
    go_enter Tryz.func240, Tryz.ntmps240
    go_wp2
    go_ret
    exact ⟨rfl, rfl⟩
end Go.Proofs.YtneiihikcnjglaaGreatDoor
/- Rows of numbers without one. -/
namespace Go.Proofs.YtneiihikcnjglaaGreatDoor
open Go.RowKit

theorem nrun_append_zero {P : Program} {w : World} (t ty e : TypeId) (i : TypeInfo) (ht : P.underlying t = some (.slice e)) (hi : P.info? e = some i) (b off n : Nat) (ad : Addr) (c : Nat) :
    (Builtin.append_ #[t, t] ty #[.slice (some ⟨b, off, none⟩) n n, .slice (some ad) 0 c]).run P w = .ok (.slice (some ⟨b, off, none⟩) n n) w := by
  have h := run_append_room_cells (P := P) w t ty e i ht hi b off n n ad 0 c [] (by simp) (fun j u h => by simp at h) (fun u h => by cases h) (by omega) (fun j h => by simp at h) (fun j h => by simp at h)
  simpa [World.setCells] using h
theorem nwpList_append_zero {P : Program} {w : World} {ops : Array Oper} {rest : List Oper} {o : Oper} {a : Act} {Q : Exit → Act → World → Prop} (hgd : o.guard = none) (s x : Operand) (t : TypeId)
    (ho : o.op = .call { callee := .builtin .append, args := #[s, x], argTypes := #[t, t] }) (e : TypeId) (i : TypeInfo) (ht : P.underlying t = some (.slice e)) (hi : P.info? e = some i) (b off n : Nat) (ad : Addr) (c : Nat)
    (hs : a.eval s = .slice (some ⟨b, off, none⟩) n n) (hx : a.eval x = .slice (some ad) 0 c) (h : wpList P ops Q rest (a.put o.dst (.slice (some ⟨b, off, none⟩) n n)) w) : wpList P ops Q (o :: rest) a w := by
  refine wpList_plain hgd fun K hK => ?_
  have hr := nrun_append_zero (P := P) (w := w) t o.type e i ht hi b off n ad c
  unfold Oper.wp execOp
  simp only [ho, resolve, invoke, builtin, Sem.run_bind, Sem.run_pure, Result.andThen_ok, List.map_toArray, List.map_cons, List.map_nil, hs, hx, hr]
  exact hK _ _ h
theorem nown_capMax {w : World} {base e size n m c : Nat} {a : Option Addr} {xs : List Value} (h : w.ownsRow base e size (.slice a n c) m xs) : c ≤ maxLen := by
  rcases h.2 with ⟨e1, _⟩ | ⟨g, cap, cur, e1, _, _, _, hm, _⟩
  · simp only [Value.slice.injEq] at e1
    rw [e1.2.2]
    exact Nat.zero_le _
  · simp only [Value.slice.injEq] at e1
    rw [e1.2.2]
    exact hm
set_option maxRecDepth 100000 in
set_option maxHeartbeats 2000000 in
theorem impl_withoutN (a : Option Addr) (n c k : Nat) (l : List Int) (w : World) (hi : NumIn w a n c l) (hk : k < n) (hc : c ≤ maxLen) (hn : n ≤ 1048576) :
    Calls Tryz.prog 192 #[.slice a n c, .int .i64 k] w fun e w' => ∃ a' c', e = .returned (.slice a' (n - 1) c') ∧ NumIn w' a' (n - 1) c' (l.take k ++ l.drop (k + 1)) ∧ Below w.heap.size w w' ∧ c' ≤ maxLen ∧ (a' = a ∨ ∀ x, a' = some x → w.heap.size ≤ x.block) := by
  obtain ⟨i0, hi0, hz0, hz1, hz2⟩ := info_parts info_i64
  have HL : Hid (l.length = n) := hi.nums.1
  obtain ⟨b, off, rfl⟩ : ∃ b off, a = some ⟨b, off, none⟩ := by
    cases a with
    | none => have := (hi.nil rfl).1; omega
    | some x => exact ⟨x.block, x.off, by rw [← hi.off x rfl]⟩
  have H1 : Hid (∀ w, Calls Tryz.prog 240 #[.slice (some ⟨b, off, none⟩) n c, .int .i64 0, .int .i64 k] w fun e w' => e = .returned (.slice (ncutAt (some ⟨b, off, none⟩) 0 k) k k) ∧ w' = w) := fun w => impl_cutN _ n c 0 k w (by omega) (by omega) hi.cap hc hi.nil hi.off
  have H2 : Hid (∀ w, Calls Tryz.prog 240 #[.slice (some ⟨b, off, none⟩) n c, .int .i64 ((k : Int) + 1), .int .i64 n] w fun e w' => e = .returned (.slice (ncutAt (some ⟨b, off, none⟩) (k + 1) n) (n - (k + 1)) (n - (k + 1))) ∧ w' = w) := fun w => impl_cutN _ n c (k + 1) n w (by omega) (Nat.le_refl _) hi.cap hc hi.nil hi.off
  have HI : Hid (NumIn w (some ⟨b, off, none⟩) n c l) := hi
  clear hi
  have e1 : ncutAt (some ⟨b, off, none⟩) 0 k = some ⟨b, off, none⟩ := by unfold ncutAt; split <;> simp
  obtain ⟨y, e2⟩ : ∃ y, ncutAt (some ⟨b, off, none⟩) (k + 1) n = some y := by unfold ncutAt; split <;> exact ⟨_, rfl⟩
  have HC1 : Hid (Nums w (some ⟨b, off, none⟩) k (l.take k)) := by
    have h := cut_nums HI.out.nums (Nat.zero_le k) (Nat.le_of_lt hk)
    rw [e1] at h
    show Nums w (some ⟨b, off, none⟩) k (l.take k)
    simpa using h
  have HC2 : Hid (Nums w (some y) (n - (k + 1)) (l.drop (k + 1))) := by
    have h := cut_nums HI.out.nums (show k + 1 ≤ n by omega) (Nat.le_refl n)
    rw [e2, List.take_of_length_le (by simp; rw [HL.out]; omega)] at h
    exact h
  rw [e1] at H1
  rw [e2] at H2
  clear e1 e2
  have HZ1 : Hid ((numCells (l.take k)).length = k * 1) := show _ = _ by rw [List.length_map, List.length_take, HL.out]; omega
  have HZ2 : Hid ((numCells (l.drop (k + 1))).length = (n - (k + 1)) * 1) := show _ = _ by rw [List.length_map, List.length_drop, HL.out]; omega
  go_enter Tryz.func192, Tryz.ntmps192
  go_wp2_with fail
  refine (H1.out _).mono ?_
  rintro e w1 ⟨rfl, hw1⟩
  rw [hw1]
  clear hw1 w1
  go_wp2_with fail
  refine (H2.out _).mono ?_
  rintro e w1 ⟨rfl, hw1⟩
  rw [hw1]
  clear hw1 w1
  by_cases hm : n = k + 1
  · subst hm
    have HF : Hid (NumIn w (some ⟨b, off, none⟩) k k (l.take k ++ l.drop (k + 1))) := by
      have hd : l.drop (k + 1) = [] := List.drop_eq_nil_of_le (by rw [HL.out]; exact Nat.le_refl _)
      rw [hd, List.append_nil]
      exact ⟨HC1.out, HI.out.lt, (fun e => by cases e), Nat.le_refl _, (fun x e => by cases e; rfl)⟩
    rw [show k + 1 - (k + 1) = 0 by omega]
    go_wp2_with (at_builtin; refine nwpList_append_zero (by rfl) _ _ _ (by rfl) 2 i0 Tryz.underlying206 hi0 b off k y 0 (by rfl) (by rfl) ?_)
    go_ret
    exact ⟨some ⟨b, off, none⟩, k, rfl, HF.out, Below.refl _ _, by unfold maxLen; omega, .inl rfl⟩
  · go_wp2_with (at_builtin; refine wpList_append_full (by rfl) _ _ _ (by rfl) 2 i0 _ 1 8 Tryz.underlying206 hi0 hz0 hz1 hz2 (by rfl) (by omega) (some ⟨b, off, none⟩) k (numCells (l.take k)) (by rfl) (fun e => by cases e) HZ1.out (nums_news HC1.out) y (n - (k + 1)) (n - (k + 1)) (numCells (l.drop (k + 1))) (by rfl) HZ2.out (nums_news HC2.out y rfl) (numCells_one _) (by omega) (by unfold maxLen; omega) (by omega) ?_; intro v1 w2 ho2 hg2)
    have hfin : w2.ownsRow w.heap.size 2 1 v1 (n - 1) (numCells (l.take k ++ l.drop (k + 1))) := by
      rw [show numCells (l.take k ++ l.drop (k + 1)) = numCells (l.take k) ++ numCells (l.drop (k + 1)) by simp, show n - 1 = k + (n - (k + 1)) by omega]
      exact ho2
    obtain ⟨a', c', hv, hci⟩ := own_numIn hfin
    have hmx : Hid (c' ≤ maxLen) := nown_capMax (by rw [← hv]; exact hfin)
    have HCI : Hid (NumIn w2 a' (n - 1) c' (l.take k ++ l.drop (k + 1))) := hci
    have HB3 : Hid (Below w.heap.size w w2) := (Below.refl _ _).grown hg2 (Nat.le_refl _) (fun q e => by cases e)
    have HNW : Hid (∀ x, a' = some x → w.heap.size ≤ x.block) := fun x e => by
      rw [hv] at hfin
      obtain ⟨q, e2⟩ := own_nform hfin (by omega)
      rw [e2] at e
      cases e
      exact (hfin.lt q (by rw [e2]; rfl)).1
    rw [hv]
    clear hci hfin hv ho2 hg2
    go_wp2
    go_ret
    exact ⟨a', c', rfl, HCI.out, HB3.out, hmx.out, .inr HNW.out⟩
end Go.Proofs.YtneiihikcnjglaaGreatDoor
