import Derived.Test.YtahccighonddaaaGreatDoorLawTxn1
import Derived.Test.YtahccighonddaaaGreatDoorAppendMore
namespace Go.Proofs.YtahccighonddaaaGreatDoor
open Go.RowKit
variable {p e s u : Int} {ra la : Option Addr} {rl rc ll lc : Nat}
structure TnFit (w : World) (ra : Option Addr) (rl rc : Nat) (la : Option Addr) (ll lc : Nat) (rs ls : List Int) : Prop where
  rs : NumIn w ra rl rc rs
  ls : NumIn w la ll lc ls
  rle : rl ≤ 1048576
  lle : ll ≤ 1048576
  rcm : rc ≤ maxLen
  lcm : lc ≤ maxLen
theorem TnFit.below {w w' : World} {rs ls : List Int} (h : TnFit w ra rl rc la ll lc rs ls) (hb : Below w.heap.size w w') : TnFit w' ra rl rc la ll lc rs ls := ⟨h.rs.below hb,h.ls.below hb,h.rle,h.lle,h.rcm,h.lcm⟩
theorem TnFit.tin {w : World} {rs ls : List Int} (h : TnFit w ra rl rc la ll lc rs ls) : TIn w ra rl la ll rs ls := ⟨h.rs.nums,h.ls.nums,h.rle,h.lle⟩
structure T3 (w wr : World) (o0 o1 o2 : Obj) : Prop where
  b0 : wr.heap[w.heap.size]? = some o0
  b1 : wr.heap[w.heap.size + 1]? = some o1
  b2 : wr.heap[w.heap.size + 1 + 1]? = some o2
  below : Below w.heap.size w wr
  size : w.heap.size + 3 ≤ wr.heap.size
theorem t3_start (w : World) (o0 o1 o2 : Obj) : T3 w (((w.alloc o0).alloc o1).alloc o2) o0 o1 o2 := by
  refine ⟨?_,?_,?_,(((Below.refl _ _).alloc (Nat.le_refl _) _).alloc (by simp) _).alloc (by simp; omega) _,by simp⟩
  · exact (Below.heap_alloc _ _ _ (by simp; omega)).trans ((Below.heap_alloc _ _ _ (by simp)).trans (heap_alloc_new _ _))
  · have h := heap_alloc_new (w.alloc o0) o1
    rw [World.size_alloc] at h
    exact (Below.heap_alloc _ _ _ (by simp)).trans h
  · have h := heap_alloc_new ((w.alloc o0).alloc o1) o2
    rw [World.size_alloc,World.size_alloc] at h
    exact h
theorem T3.grown {w wr wx : World} {o0 o1 o2 : Obj} {row : Option Nat} (h : T3 w wr o0 o1 o2) (hg : wr.grownBy wx row) (hr : ∀ j,row = some j → w.heap.size + 3 ≤ j) : T3 w wx o0 o1 o2 := by
  have hz := h.size
  have hne : ∀ i,i < w.heap.size + 3 → some i ≠ row := fun i hi e => by have := hr i e.symm; omega
  exact ⟨(hg.block _ (by omega) (hne _ (by omega))).trans h.b0,(hg.block _ (by omega) (hne _ (by omega))).trans h.b1,(hg.block _ (by omega) (hne _ (by omega))).trans h.b2,h.below.grown hg (by omega) (fun j e => by have := hr j e; omega),Nat.le_trans h.size hg.size⟩
theorem T3.set2 {w wr : World} {o0 o1 : Obj} {C : Array Value} {t : TypeId} (h : T3 w wr o0 o1 (.cells C t (0,0))) (k : Nat) (v : Value) : T3 w (wr.setCell ⟨w.heap.size + 1 + 1,k,none⟩ v) o0 o1 (.cells (C.setIfInBounds k v) t (0,0)) :=
  ⟨(Below.heap_setCell wr ⟨w.heap.size + 1 + 1,k,none⟩ _ w.heap.size (show w.heap.size ≠ w.heap.size + 1 + 1 by omega)).trans h.b0,(Below.heap_setCell wr ⟨w.heap.size + 1 + 1,k,none⟩ _ (w.heap.size + 1) (show w.heap.size + 1 ≠ w.heap.size + 1 + 1 by omega)).trans h.b1,heap_setCell_same wr (w.heap.size + 1 + 1) k _ _ _ h.b2,h.below.setCell (p := ⟨w.heap.size + 1 + 1,k,none⟩) (show w.heap.size ≤ w.heap.size + 1 + 1 by omega) _,by simpa [World.setCell] using h.size⟩
theorem t3_end {w w2 w4 : World} {o0 o1 o2 : Obj} {a b : Option Addr} {n q m r base : Nat} {xs ys : List Value} {v v5 v0 v1 v2' v3 v4 v6 : Value} (h : T3 w w4 o0 o1 o2) (hx : w2.ownsRow base 2 1 (.slice a n q) n xs) (hb : w.heap.size + 3 ≤ base)
    (hy : w4.ownsRow w2.heap.size 2 1 (.slice b m r) m ys) (hz : w.heap.size + 3 ≤ w2.heap.size) (hg : (w2.setCell ⟨w.heap.size + 1 + 1,4,none⟩ v).grownBy w4 none) :
    OwnTxn (tset6 (w4.setCell ⟨w.heap.size + 1 + 1,5,none⟩ v5) (w.heap.size + 1) v0 v1 v2' v3 v4 v6) w.heap.size a n q b m r xs ys ∧ Below w.heap.size w (tset6 (w4.setCell ⟨w.heap.size + 1 + 1,5,none⟩ v5) (w.heap.size + 1) v0 v1 v2' v3 v4 v6) := by
  have k0 : w.heap.size + 1 + 1 < base := by omega
  have k1 : w.heap.size + 1 < base := by omega
  have k2 : w.heap.size + 1 + 1 < w2.heap.size := by omega
  have k3 : w.heap.size + 1 < w2.heap.size := by omega
  have hx1 := (ownsRow_setCell_below hx (a := ⟨w.heap.size + 1 + 1,4,none⟩) k0 v).kept hg (by cases (Value.slice a n q).ownBlock <;> simp)
  refine ⟨⟨?_,?_,?_⟩,?_⟩
  · exact (own_set6 (ownsRow_setCell_below hx1 (a := ⟨w.heap.size + 1 + 1,5,none⟩) k0 _) (w.heap.size + 1) k1 _ _ _ _ _ _).mono (by omega)
  · exact (own_set6 (ownsRow_setCell_below hy (a := ⟨w.heap.size + 1 + 1,5,none⟩) k2 _) (w.heap.size + 1) k3 _ _ _ _ _ _).mono (by omega)
  · intro g h1 h2
    have := (hx.lt g h1).2
    have := (hy.lt g h2).1
    omega
  · exact below_set6 (h.below.setCell (p := ⟨w.heap.size + 1 + 1,5,none⟩) (show w.heap.size ≤ w.heap.size + 1 + 1 by omega) _) (w.heap.size + 1) (show w.heap.size ≤ w.heap.size + 1 by omega) _ _ _ _ _ _
set_option maxRecDepth 100000 in
set_option maxHeartbeats 4000000 in
theorem impl_copyTxn (rs ls : List Int) (w : World) (hi : NumIn w ra rl rc rs) (hj : NumIn w la ll lc ls) (hrl : rl ≤ 1048577) (hll : ll ≤ 1048577) :
    Calls Tryz.prog 140 #[txnV p e s u ra rl rc la ll lc] w fun x w' => ∃ a q b m,x = .returned (txnV p e s u a rl q b ll m) ∧ OwnTxn w' w.heap.size a rl q b ll m (numCells rs) (numCells ls) ∧ Below w.heap.size w w' := by
  obtain ⟨i0,hi0,hz0,hz1,hz2⟩ := info_parts info_i64
  have HR : Hid (NumIn w ra rl rc rs) := hi
  have HC : Hid (NumIn w la ll lc ls) := hj
  have HL : Hid (rs.length = rl) := hi.nums.1
  have HLC : Hid (ls.length = ll) := hj.nums.1
  clear hi hj
  go_enter Tryz.func140,Tryz.ntmps140
  have HS0 : Hid (T3 w (((w.alloc (txnObj p e s u ra rl rc la ll lc)).alloc (txnObj 0 0 0 0 none 0 0 none 0 0)).alloc (txnObj p e s u ra rl rc la ll lc)) (txnObj p e s u ra rl rc la ll lc) (txnObj 0 0 0 0 none 0 0 none 0 0) (txnObj p e s u ra rl rc la ll lc)) := t3_start ..
  go_wp2_with (first
    | (at_builtin; refine wpList_append_own_any (by rfl) _ _ 23 (by rfl) (w.heap.size + 3) 2 i0 _ 1 8 Tryz.underlying23 hi0 hz0 hz1 hz2 (by rfl) (by omega) (.slice none 0 0) 0 [] (by rfl) (World.ownsRow_nil _ _ _ _) ra rl rc (numCells rs) (by rfl) (by rw [List.length_map,HL.out]; omega) HR.out.nil (nums_news (nums_below HR.out.nums HS0.out.below)) (numCells_one _) (by unfold maxLen; omega) (by omega) HS0.out.size ?_; intro v1 w2 ho2 hg2; simp only [Nat.zero_add,List.nil_append] at ho2; obtain ⟨a1,c1,rfl⟩ := own_numV ho2; have hs2 := HS0.out.grown hg2 (fun j e => by simp [Value.ownBlock] at e); have g0 := fun o => tcell hs2.b0 o; have g2 := fun o => tcell hs2.b2 o; have f2 := fun o => tunfrozen hs2.b2 o; have HS3 : Hid (T3 w (w2.setCell ⟨w.heap.size + 1 + 1,4,none⟩ (.slice a1 rl c1)) (txnObj p e s u ra rl rc la ll lc) (txnObj 0 0 0 0 none 0 0 none 0 0) (txnObj p e s u a1 rl c1 la ll lc)) := hs2.set2 4 (.slice a1 rl c1); have HO2 : Hid (w2.ownsRow (w.heap.size + 3) 2 1 (.slice a1 rl c1) rl (numCells rs)) := ho2; have hz2' : Hid (w.heap.size + 3 ≤ w2.heap.size) := hs2.size; have hz3' : w.heap.size + 1 + 1 < w2.heap.size := (by have := hz2'.out; omega); clear hs2 hg2 ho2)
    | (at_builtin; refine wpList_append_own_any (by rfl) _ _ 23 (by rfl) w2.heap.size 2 i0 _ 1 8 Tryz.underlying23 hi0 hz0 hz1 hz2 (by rfl) (by omega) (.slice none 0 0) 0 [] (by rfl) (World.ownsRow_nil _ _ _ _) la ll lc (numCells ls) (by rfl) (by rw [List.length_map,HLC.out]; omega) HC.out.nil (nums_news (nums_below HC.out.nums HS3.out.below)) (numCells_one _) (by unfold maxLen; omega) (by omega) (by simp [World.setCell]) ?_; intro v3 w4 ho4 hg4; simp only [Nat.zero_add,List.nil_append] at ho4; obtain ⟨a3,c3,rfl⟩ := own_numV ho4; have hs4 := HS3.out.grown hg4 (fun j e => by simp [Value.ownBlock] at e); have g4 := fun o => tcell hs4.b2 o; have f4 := fun o => tunfrozen hs4.b2 o; have g5 := fun o => tcell hs4.b1 o; have f5 := fun o => tunfrozen hs4.b1 o; have HF : Hid _ := t3_end (v5 := .slice a3 ll c3) (v0 := .int .i64 p) (v1 := .int .i64 e) (v2' := .int .i64 s) (v3 := .int .i64 u) (v4 := .slice a1 rl c1) (v6 := .slice a3 ll c3) hs4 HO2.out (Nat.le_refl _) ho4 hz2'.out hg4; clear hs4 hg4 ho4 g0 g2 f2))
  obtain ⟨hx,hy⟩ := HF.out
  exact bodyPost_ret (v := txnV p e s u a1 rl c1 a3 ll c3) (by simp [results,Tryz.results140,go_sem,g5]) rfl ⟨a1,c1,a3,c3,rfl,hx,hy⟩
end Go.Proofs.YtahccighonddaaaGreatDoor
namespace Go.Proofs.YtahccighonddaaaGreatDoor
open Go.RowKit
variable {p e s u : Int} {ra la : Option Addr} {rl rc ll lc : Nat}
structure T2 (w wr : World) (o0 o1 : Obj) : Prop where
  b0 : wr.heap[w.heap.size]? = some o0
  b1 : wr.heap[w.heap.size + 1]? = some o1
  below : Below w.heap.size w wr
  size : w.heap.size + 2 ≤ wr.heap.size
theorem t2_start (w : World) (o0 o1 : Obj) : T2 w ((w.alloc o0).alloc o1) o0 o1 := by
  refine ⟨(Below.heap_alloc _ _ _ (by simp)).trans (heap_alloc_new _ _),?_,((Below.refl _ _).alloc (Nat.le_refl _) _).alloc (by simp) _,by simp⟩
  have h := heap_alloc_new (w.alloc o0) o1
  rwa [World.size_alloc] at h
theorem T2.grown {w wr wx : World} {o0 o1 : Obj} {row : Option Nat} (h : T2 w wr o0 o1) (hg : wr.grownBy wx row) (hr : ∀ j,row = some j → w.heap.size + 2 ≤ j) : T2 w wx o0 o1 := by
  have hz := h.size
  have hne : ∀ i,i < w.heap.size + 2 → some i ≠ row := fun i hi e => by have := hr i e.symm; omega
  exact ⟨(hg.block _ (by omega) (hne _ (by omega))).trans h.b0,(hg.block _ (by omega) (hne _ (by omega))).trans h.b1,h.below.grown hg (by omega) (fun j e => by have := hr j e; omega),Nat.le_trans h.size hg.size⟩
theorem T2.under {w wr wx : World} {o0 o1 : Obj} (h : T2 w wr o0 o1) (hb : Below wr.heap.size wr wx) : T2 w wx o0 o1 := h.grown (tbelow_grown hb) (fun j e => by cases e)
theorem T2.alloc {w wr : World} {o0 o1 : Obj} (h : T2 w wr o0 o1) (o : Obj) : T2 w (wr.alloc o) o0 o1 := h.under (tbelow_new _ _)
theorem T2.set0 {w wr : World} {o1 : Obj} {C : Array Value} {t : TypeId} (h : T2 w wr (.cells C t (0,0)) o1) (k : Nat) (v : Value) : T2 w (wr.setCell ⟨w.heap.size,k,none⟩ v) (.cells (C.setIfInBounds k v) t (0,0)) o1 :=
  ⟨heap_setCell_same wr w.heap.size k _ _ _ h.b0,(Below.heap_setCell wr ⟨w.heap.size,k,none⟩ _ (w.heap.size + 1) (show w.heap.size + 1 ≠ w.heap.size by omega)).trans h.b1,h.below.setCell (p := ⟨w.heap.size,k,none⟩) (Nat.le_refl _) _,by simpa [World.setCell] using h.size⟩
theorem T2.cell0 {w wr : World} {o1 : Obj} {C : Array Value} {t : TypeId} (h : T2 w wr (.cells C t (0,0)) o1) (o : Nat) : wr.cell? ⟨w.heap.size,o,none⟩ = C[o]? := tcell h.b0 o
theorem T2.cell1 {w wr : World} {o0 : Obj} {C : Array Value} {t : TypeId} (h : T2 w wr o0 (.cells C t (0,0))) (o : Nat) : wr.cell? ⟨w.heap.size + 1,o,none⟩ = C[o]? := tcell h.b1 o
theorem T2.free1 {w wr : World} {o0 : Obj} {C : Array Value} {t : TypeId} (h : T2 w wr o0 (.cells C t (0,0))) (o : Nat) : wr.frozen? ⟨w.heap.size + 1,o,none⟩ = false := tunfrozen h.b1 o
theorem t_row (w : World) (t : TypeId) (size : Nat) : (w.alloc (.cells #[] t)).ownsRow w.heap.size t size (.slice (some ⟨w.heap.size,0,none⟩) 0 0) 0 [] := by
  have h := World.ownsRow_lit (base := w.heap.size) (e := t) (size := size) w #[] 0 (by simp) (by unfold maxLen; omega) (by simp)
  simpa using h
theorem t_row2 (w : World) (o o' : Obj) (t : TypeId) (size : Nat) : (((w.alloc o).alloc o').alloc (.cells #[] t)).ownsRow (w.heap.size + 2) t size (.slice (some ⟨w.heap.size + 1 + 1,0,none⟩) 0 0) 0 [] := by
  have h := t_row ((w.alloc o).alloc o') t size
  simpa using h
theorem t_rowS (w : World) (q : Addr) (v : Value) (t : TypeId) (size : Nat) : ((w.setCell q v).alloc (.cells #[] t)).ownsRow w.heap.size t size (.slice (some ⟨w.heap.size,0,none⟩) 0 0) 0 [] := by
  have h := t_row (w.setCell q v) t size
  simpa [World.setCell] using h
theorem t2_end {w w2 w4 : World} {o0 o1 o : Obj} {a b : Option Addr} {n q m r : Nat} {xs ys : List Value} {v v5 v0 v1 v2' v3 v4 v6 : Value} (h : T2 w w4 o0 o1) (hx : w2.ownsRow (w.heap.size + 2) 2 1 (.slice a n q) n xs)
    (hy : w4.ownsRow w2.heap.size 2 1 (.slice b m r) m ys) (hz : w.heap.size + 2 ≤ w2.heap.size) (hg : ((w2.setCell ⟨w.heap.size,4,none⟩ v).alloc o).grownBy w4 (Value.slice (some ⟨w2.heap.size,0,none⟩) 0 0).ownBlock) :
    OwnTxn (tset6 (w4.setCell ⟨w.heap.size,5,none⟩ v5) (w.heap.size + 1) v0 v1 v2' v3 v4 v6) w.heap.size a n q b m r xs ys ∧ Below w.heap.size w (tset6 (w4.setCell ⟨w.heap.size,5,none⟩ v5) (w.heap.size + 1) v0 v1 v2' v3 v4 v6) := by
  have k0 : w.heap.size < w.heap.size + 2 := by omega
  have k1 : w.heap.size + 1 < w.heap.size + 2 := by omega
  have k2 : w.heap.size < w2.heap.size := by omega
  have k3 : w.heap.size + 1 < w2.heap.size := by omega
  have hx1 := ((ownsRow_setCell_below hx (a := ⟨w.heap.size,4,none⟩) k0 v).alloc o).kept hg (by
    cases hq : (Value.slice a n q).ownBlock with
    | none => exact .inl rfl
    | some g =>
      right
      have := (hx.lt g hq).2
      intro e'
      simp [Value.ownBlock] at e'
      omega)
  refine ⟨⟨?_,?_,?_⟩,?_⟩
  · exact (own_set6 (ownsRow_setCell_below hx1 (a := ⟨w.heap.size,5,none⟩) k0 _) (w.heap.size + 1) k1 _ _ _ _ _ _).mono (by omega)
  · exact (own_set6 (ownsRow_setCell_below hy (a := ⟨w.heap.size,5,none⟩) k2 _) (w.heap.size + 1) k3 _ _ _ _ _ _).mono (by omega)
  · intro g h1 h2
    have := (hx.lt g h1).2
    have := (hy.lt g h2).1
    omega
  · exact below_set6 (h.below.setCell (p := ⟨w.heap.size,5,none⟩) (Nat.le_refl _) _) (w.heap.size + 1) (show w.heap.size ≤ w.heap.size + 1 by omega) _ _ _ _ _ _
set_option maxRecDepth 100000 in
set_option maxHeartbeats 4000000 in
theorem spec_tcopy (rs ls : List Int) (w : World) (hi : NumIn w ra rl rc rs) (hj : NumIn w la ll lc ls) (hrl : rl ≤ 1048577) (hll : ll ≤ 1048577) :
    Calls Tryz.prog 83 #[txnV p e s u ra rl rc la ll lc] w fun x w' => ∃ a q b m,x = .returned (txnV p e s u a rl q b ll m) ∧ OwnTxn w' w.heap.size a rl q b ll m (numCells rs) (numCells ls) ∧ Below w.heap.size w w' := by
  obtain ⟨i0,hi0,hz0,hz1,hz2⟩ := info_parts info_i64
  have HR : Hid (NumIn w ra rl rc rs) := hi
  have HC : Hid (NumIn w la ll lc ls) := hj
  have HL : Hid (rs.length = rl) := hi.nums.1
  have HLC : Hid (ls.length = ll) := hj.nums.1
  clear hi hj
  go_enter Tryz.func83,Tryz.ntmps83
  have HS0 : Hid (T2 w (((w.alloc (txnObj p e s u ra rl rc la ll lc)).alloc (txnObj 0 0 0 0 none 0 0 none 0 0)).alloc (.cells #[] 2)) (txnObj p e s u ra rl rc la ll lc) (txnObj 0 0 0 0 none 0 0 none 0 0)) := (t2_start ..).alloc _
  go_wp2_with (first
    | (at_builtin; refine wpList_append_own_any (by rfl) _ _ 23 (by rfl) (w.heap.size + 2) 2 i0 _ 1 8 Tryz.underlying23 hi0 hz0 hz1 hz2 (by rfl) (by omega) (.slice (some ⟨w.heap.size + 1 + 1,0,none⟩) 0 0) 0 [] (by rfl) (t_row2 _ _ _ _ _) ra rl rc (numCells rs) (by rfl) (by rw [List.length_map,HL.out]; omega) HR.out.nil (nums_news (nums_below HR.out.nums HS0.out.below)) (numCells_one _) (by unfold maxLen; omega) (by omega) (by simp) ?_; intro v1 w2 ho2 hg2; simp only [Nat.zero_add,List.nil_append] at ho2; obtain ⟨a1,c1,rfl⟩ := own_numV ho2; have hs2 := HS0.out.grown hg2 (fun j e => by simp [Value.ownBlock] at e; omega); have g0 := fun o => tcell hs2.b0 o; have f0 := fun o => tunfrozen hs2.b0 o; have HS3 : Hid (T2 w ((w2.setCell ⟨w.heap.size,4,none⟩ (.slice a1 rl c1)).alloc (.cells #[] 2)) (txnObj p e s u a1 rl c1 la ll lc) (txnObj 0 0 0 0 none 0 0 none 0 0)) := (hs2.set0 4 (.slice a1 rl c1)).alloc _; have HO2 : Hid (w2.ownsRow (w.heap.size + 2) 2 1 (.slice a1 rl c1) rl (numCells rs)) := ho2; have hz2' : Hid (w.heap.size + 2 ≤ w2.heap.size) := hs2.size; have hz3' : w.heap.size < w2.heap.size := (by have := hz2'.out; omega); clear hs2 hg2 ho2)
    | (at_builtin; refine wpList_append_own_any (by rfl) _ _ 23 (by rfl) w2.heap.size 2 i0 _ 1 8 Tryz.underlying23 hi0 hz0 hz1 hz2 (by rfl) (by omega) (.slice (some ⟨w2.heap.size,0,none⟩) 0 0) 0 [] (by rfl) (t_rowS _ _ _ _ _) la ll lc (numCells ls) (by rfl) (by rw [List.length_map,HLC.out]; omega) HC.out.nil (nums_news (nums_below HC.out.nums HS3.out.below)) (numCells_one _) (by unfold maxLen; omega) (by omega) (by simp [World.setCell]) ?_; intro v3 w4 ho4 hg4; simp only [Nat.zero_add,List.nil_append] at ho4; obtain ⟨a3,c3,rfl⟩ := own_numV ho4; have hs4 := HS3.out.grown hg4 (fun j e => by have := hz2'.out; simp [Value.ownBlock] at e; omega); have g4 := fun o => tcell hs4.b0 o; have f4 := fun o => tunfrozen hs4.b0 o; have g5 := fun o => tcell hs4.b1 o; have f5 := fun o => tunfrozen hs4.b1 o; have HF : Hid _ := t2_end (v5 := .slice a3 ll c3) (v0 := .int .i64 p) (v1 := .int .i64 e) (v2' := .int .i64 s) (v3 := .int .i64 u) (v4 := .slice a1 rl c1) (v6 := .slice a3 ll c3) hs4 HO2.out ho4 hz2'.out hg4; clear hs4 hg4 ho4 g0 f0))
  obtain ⟨hx,hy⟩ := HF.out
  exact bodyPost_ret (v := txnV p e s u a1 rl c1 a3 ll c3) (by simp [results,Tryz.results83,go_sem,g5]) rfl ⟨a1,c1,a3,c3,rfl,hx,hy⟩
end Go.Proofs.YtahccighonddaaaGreatDoor
namespace Go.Proofs.YtahccighonddaaaGreatDoor
open Go.RowKit
variable {p e s u : Int} {ra la : Option Addr} {rl rc ll lc : Nat}
end Go.Proofs.YtahccighonddaaaGreatDoor
namespace Go.Proofs.YtahccighonddaaaGreatDoor
open Go.RowKit
end Go.Proofs.YtahccighonddaaaGreatDoor
namespace Go.Proofs.YtahccighonddaaaGreatDoor
open Go.RowKit
theorem nown_capMax {w : World} {base e size n m c : Nat} {a : Option Addr} {xs : List Value} (h : w.ownsRow base e size (.slice a n c) m xs) : c ≤ maxLen := by
  rcases h.2 with ⟨e1,_⟩ | ⟨g,cap,cur,e1,_,_,_,hm,_⟩
  · simp only [Value.slice.injEq] at e1
    rw [e1.2.2]
    exact Nat.zero_le _
  · simp only [Value.slice.injEq] at e1
    rw [e1.2.2]
    exact hm
end Go.Proofs.YtahccighonddaaaGreatDoor
