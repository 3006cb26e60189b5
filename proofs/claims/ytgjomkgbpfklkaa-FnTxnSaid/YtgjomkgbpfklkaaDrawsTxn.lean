/- Contracts for the draws of chapter 5. -/
import Derived.Test.YtgjomkgbpfklkaaTxnTouch2
import Derived.Test.YtgjomkgbpfklkaaSrc
import Derived.Deep.DeepCutAuto
namespace Go.Proofs.Ytgjomkgbpfklkaa
open Go.RowKit

theorem own_ncap {w : World} {base e size n m c : Nat} {a : Option Addr} {xs : List Value} (h : w.ownsRow base e size (.slice a n c) m xs) : c ≤ maxLen := by
  rcases h.2 with ⟨e1, _⟩ | ⟨g, cap, cur, e1, _, _, _, hm, _⟩
  · simp only [Value.slice.injEq] at e1
    rw [e1.2.2]
    unfold maxLen
    omega
  · simp only [Value.slice.injEq] at e1
    rw [e1.2.2]
    exact hm
/-- While a transaction is drawn: the answer's box, the transaction's own, its lists, and the source. -/
structure TD (w wr : World) (g : Nat) (aa : Option Addr) (len cap B : Nat) (T : Nat) (p e s u : Int) (a : Option Addr) (n q : Nat) (b : Option Addr) (m r : Nat) (rs ls : List Int) : Prop where
  res : wr.heap[w.heap.size]? = some (txnObj 0 0 0 0 none 0 0 none 0 0)
  box : wr.heap[T]? = some (txnObj p e s u a n q b m r)
  own1 : wr.ownsRow (T + 1) 2 1 (.slice a n q) n (numCells rs)
  own2 : wr.ownsRow (T + 1) 2 1 (.slice b m r) m (numCells ls)
  src : Src wr g aa len cap
  byt : Bytes B wr aa len
  bel : Below g w wr
  lt : w.heap.size < T
  gl : g < w.heap.size
  bg : B ≤ g
def AP (a : Option Addr) (n q : Nat) (b : Option Addr) (m r : Nat) : Prop := ∀ g, (Value.slice a n q).ownBlock = some g → (Value.slice b m r).ownBlock ≠ some g
variable {w wr w1 : World} {g : Nat} {aa : Option Addr} {len cap B T : Nat} {p e s u : Int} {a : Option Addr} {n q : Nat} {b : Option Addr} {m r : Nat} {rs ls : List Int}
theorem TD.draw (h : TD w wr g aa len cap B T p e s u a n q b m r rs ls) (hs : Src w1 g aa len cap) (hg : wr.grownBy w1 (some g)) : TD w w1 g aa len cap B T p e s u a n q b m r rs ls := by
  have hlt := h.lt
  have hgl := h.gl
  have hbx := tblk_lt h.box
  have hk : ∀ i, i ≠ g → some i ≠ some g := fun i hi e' => hi (by simpa using e')
  refine ⟨(hg.block _ (by omega) (hk _ (by omega))).trans h.res, (hg.block _ hbx (hk _ (by omega))).trans h.box, h.own1.kept hg ?_, h.own2.kept hg ?_, hs, bytes_grown h.byt hg h.bg, h.bel.grown hg (by have := h.bel.size; omega) (fun k e' => by simp at e'; omega), h.lt, h.gl, h.bg⟩
  · cases hq : (Value.slice a n q).ownBlock with
    | none => exact .inl rfl
    | some i => exact .inr (hk i (by have := (h.own1.lt i hq).1; omega))
  · cases hq : (Value.slice b m r).ownBlock with
    | none => exact .inl rfl
    | some i => exact .inr (hk i (by have := (h.own2.lt i hq).1; omega))
theorem TD.under (h : TD w wr g aa len cap B T p e s u a n q b m r rs ls) (hb : Below wr.heap.size wr w1) : TD w w1 g aa len cap B T p e s u a n q b m r rs ls := by
  have hlt := h.lt
  have hgl := h.gl
  have hbx := tblk_lt h.box
  exact ⟨tblk h.res hb, tblk h.box hb, h.own1.kept (tbelow_grown hb) (by cases (Value.slice a n q).ownBlock <;> simp), h.own2.kept (tbelow_grown hb) (by cases (Value.slice b m r).ownBlock <;> simp), src_below h.src hb (by omega), bytes_below h.byt hb (by have := h.bg; omega), h.bel.trans (hb.mono (by omega)), h.lt, h.gl, h.bg⟩
theorem TD.drew (h : TD w wr g aa len cap B T p e s u a n q b m r rs ls) : TD w wr.drew g aa len cap B T p e s u a n q b m r rs ls := h.under ((Below.refl _ _).drew)
theorem TD.fit (h : TD w wr g aa len cap B T p e s u a n q b m r rs ls) (hn : n ≤ 1048576) (hm : m ≤ 1048576) : TFit wr a n q b m r rs ls := by
  obtain ⟨a1, q1, e1, h1⟩ := own_numIn h.own1
  obtain ⟨a2, q2, e2, h2⟩ := own_numIn h.own2
  simp only [Value.slice.injEq] at e1 e2
  obtain ⟨rfl, _, rfl⟩ := e1
  obtain ⟨rfl, _, rfl⟩ := e2
  exact ⟨h1, h2, hn, hm, own_ncap h.own1, own_ncap h.own2⟩
/-- Another transaction is stored in its place. -/
theorem TD.put {p' e' s' u' : Int} {a' : Option Addr} {n' q' : Nat} {b' : Option Addr} {m' r' : Nat} {rs' ls' : List Int} (h : TD w wr g aa len cap B T p e s u a n q b m r rs ls) (hb : Below wr.heap.size wr w1) (ho : OwnTxn w1 wr.heap.size a' n' q' b' m' r' (numCells rs') (numCells ls')) :
    TD w (tset6 w1 T (.int .i64 p') (.int .i64 e') (.int .i64 s') (.int .i64 u') (.slice a' n' q') (.slice b' m' r')) g aa len cap B T p' e' s' u' a' n' q' b' m' r' rs' ls' := by
  have hbx := tblk_lt h.box
  have h1 := h.under hb
  have hlt := h.lt
  have hgl := h.gl
  have hst : Below T w1 (tset6 w1 T (.int .i64 p') (.int .i64 e') (.int .i64 s') (.int .i64 u') (.slice a' n' q') (.slice b' m' r')) := below_set6 (Below.refl _ _) T (Nat.le_refl _) _ _ _ _ _ _
  refine ⟨(hst.block _ hlt).trans h1.res, ?_, (own_set6 ho.1 T hbx _ _ _ _ _ _).mono hbx, (own_set6 ho.2.1 T hbx _ _ _ _ _ _).mono hbx, src_below h1.src hst (by omega), bytes_below h1.byt hst (by have := h.bg; omega), h1.bel.trans (hst.mono (by omega)), h.lt, h.gl, h.bg⟩
  exact heap_setCell_same _ _ 5 _ _ _ (heap_setCell_same _ _ 4 _ _ _ (heap_setCell_same _ _ 3 _ _ _ (heap_setCell_same _ _ 2 _ _ _ (heap_setCell_same _ _ 1 _ _ _ (heap_setCell_same _ _ 0 _ _ _ h1.box)))))
/-- A number is stored in it. -/
theorem TD.num0 (h : TD w wr g aa len cap B T p e s u a n q b m r rs ls) (x : Int) : TD w (wr.setCell ⟨T, 0, none⟩ (.int .i64 x)) g aa len cap B T x e s u a n q b m r rs ls := by
  have hlt := h.lt
  have hgl := h.gl
  have hst : Below T wr (wr.setCell ⟨T, 0, none⟩ (.int .i64 x)) := (Below.refl _ _).setCell (p := ⟨T, 0, none⟩) (Nat.le_refl _) _
  exact ⟨(hst.block _ hlt).trans h.res, heap_setCell_same _ _ 0 _ _ _ h.box, ownsRow_setCell_below h.own1 (a := ⟨T, 0, none⟩) (Nat.lt_succ_self _) _, ownsRow_setCell_below h.own2 (a := ⟨T, 0, none⟩) (Nat.lt_succ_self _) _, src_below h.src hst (by omega), bytes_below h.byt hst (by have := h.bg; omega), h.bel.trans (hst.mono (by omega)), h.lt, h.gl, h.bg⟩
theorem TD.num2 (h : TD w wr g aa len cap B T p e s u a n q b m r rs ls) (x : Int) : TD w (wr.setCell ⟨T, 2, none⟩ (.int .i64 x)) g aa len cap B T p e x u a n q b m r rs ls := by
  have hlt := h.lt
  have hgl := h.gl
  have hst : Below T wr (wr.setCell ⟨T, 2, none⟩ (.int .i64 x)) := (Below.refl _ _).setCell (p := ⟨T, 2, none⟩) (Nat.le_refl _) _
  exact ⟨(hst.block _ hlt).trans h.res, heap_setCell_same _ _ 2 _ _ _ h.box, ownsRow_setCell_below h.own1 (a := ⟨T, 2, none⟩) (Nat.lt_succ_self _) _, ownsRow_setCell_below h.own2 (a := ⟨T, 2, none⟩) (Nat.lt_succ_self _) _, src_below h.src hst (by omega), bytes_below h.byt hst (by have := h.bg; omega), h.bel.trans (hst.mono (by omega)), h.lt, h.gl, h.bg⟩
/-- Nothing old has turned but for one row of one's own: what is not that row stands. -/
theorem TD.grow {w2 : World} {o : Obj} {row : Option Nat} (h : TD w wr g aa len cap B T p e s u a n q b m r rs ls) (hg : (wr.alloc o).grownBy w2 row) (hr : ∀ j, row = some j → T + 1 ≤ j) :
    w2.heap[w.heap.size]? = some (txnObj 0 0 0 0 none 0 0 none 0 0) ∧ w2.heap[T]? = some (txnObj p e s u a n q b m r) ∧ Src w2 g aa len cap ∧ Bytes B w2 aa len ∧ Below g w w2 := by
  have h1 := h.under (tbelow_new wr o)
  have hlt := h.lt
  have hgl := h.gl
  have hbx := tblk_lt h1.box
  have hB : Below (T + 1) (wr.alloc o) w2 := (Below.refl _ _).grown hg (by omega) (fun j e' => hr j e')
  exact ⟨(hB.block _ (by omega)).trans h1.res, (hB.block _ (by omega)).trans h1.box, src_below h1.src hB (by omega), bytes_below h1.byt hB (by have := h.bg; omega), h1.bel.trans (hB.mono (by omega))⟩
theorem TD.appL {w2 : World} {o : Obj} {b2 : Option Addr} {r2 : Nat} {x : Int} (h : TD w wr g aa len cap B T p e s u a n q b m r rs ls) (hap : AP a n q b m r) (ho : w2.ownsRow (T + 1) 2 1 (.slice b2 (m + 1) r2) (m + 1) (numCells ls ++ [.int .i64 x])) (hg : (wr.alloc o).grownBy w2 (Value.slice b m r).ownBlock) :
    (∀ o, w2.cell? ⟨T, o, none⟩ = #[Value.int .i64 p, .int .i64 e, .int .i64 s, .int .i64 u, .slice a n q, .slice b m r][o]?) ∧ (∀ o, w2.frozen? ⟨T, o, none⟩ = false) ∧ TD w (w2.setCell ⟨T, 5, none⟩ (.slice b2 (m + 1) r2)) g aa len cap B T p e s u a n q b2 (m + 1) r2 rs (ls ++ [x]) := by
  have hr : ∀ j, (Value.slice b m r).ownBlock = some j → T + 1 ≤ j := fun j e' => (h.own2.lt j e').1
  obtain ⟨k1, k2, k3, k4, k5⟩ := h.grow hg hr
  have hlt := h.lt
  have hgl := h.gl
  have h1 : w2.ownsRow (T + 1) 2 1 (.slice a n q) n (numCells rs) := (h.own1.alloc o).kept hg (by
    cases hq : (Value.slice a n q).ownBlock with
    | none => exact .inl rfl
    | some i => exact .inr fun e' => hap i hq e'.symm)
  have hst : Below T w2 (w2.setCell ⟨T, 5, none⟩ (.slice b2 (m + 1) r2)) := (Below.refl _ _).setCell (p := ⟨T, 5, none⟩) (Nat.le_refl _) _
  refine ⟨fun o => tcell k2 o, fun o => tunfrozen k2 o, (hst.block _ hlt).trans k1, heap_setCell_same _ _ 5 _ _ _ k2, ownsRow_setCell_below h1 (a := ⟨T, 5, none⟩) (Nat.lt_succ_self _) _, ownsRow_setCell_below ?_ (a := ⟨T, 5, none⟩) (Nat.lt_succ_self _) _, src_below k3 hst (by omega), bytes_below k4 hst (by have := h.bg; omega), k5.trans (hst.mono (by omega)), h.lt, h.gl, h.bg⟩
  simpa using ho
theorem TD.appR {w2 : World} {o : Obj} {a2 : Option Addr} {q2 : Nat} {x : Int} (h : TD w wr g aa len cap B T p e s u a n q b m r rs ls) (hap : AP a n q b m r) (ho : w2.ownsRow (T + 1) 2 1 (.slice a2 (n + 1) q2) (n + 1) (numCells rs ++ [.int .i64 x])) (hg : (wr.alloc o).grownBy w2 (Value.slice a n q).ownBlock) :
    (∀ o, w2.cell? ⟨T, o, none⟩ = #[Value.int .i64 p, .int .i64 e, .int .i64 s, .int .i64 u, .slice a n q, .slice b m r][o]?) ∧ (∀ o, w2.frozen? ⟨T, o, none⟩ = false) ∧ TD w (w2.setCell ⟨T, 4, none⟩ (.slice a2 (n + 1) q2)) g aa len cap B T p e s u a2 (n + 1) q2 b m r (rs ++ [x]) ls := by
  have hr : ∀ j, (Value.slice a n q).ownBlock = some j → T + 1 ≤ j := fun j e' => (h.own1.lt j e').1
  obtain ⟨k1, k2, k3, k4, k5⟩ := h.grow hg hr
  have hlt := h.lt
  have hgl := h.gl
  have h1 : w2.ownsRow (T + 1) 2 1 (.slice b m r) m (numCells ls) := (h.own2.alloc o).kept hg (by
    cases hq : (Value.slice b m r).ownBlock with
    | none => exact .inl rfl
    | some i => exact .inr fun e' => hap i e'.symm hq)
  have hst : Below T w2 (w2.setCell ⟨T, 4, none⟩ (.slice a2 (n + 1) q2)) := (Below.refl _ _).setCell (p := ⟨T, 4, none⟩) (Nat.le_refl _) _
  refine ⟨fun o => tcell k2 o, fun o => tunfrozen k2 o, (hst.block _ hlt).trans k1, heap_setCell_same _ _ 4 _ _ _ k2, ownsRow_setCell_below ?_ (a := ⟨T, 4, none⟩) (Nat.lt_succ_self _) _, ownsRow_setCell_below h1 (a := ⟨T, 4, none⟩) (Nat.lt_succ_self _) _, src_below k3 hst (by omega), bytes_below k4 hst (by have := h.bg; omega), k5.trans (hst.mono (by omega)), h.lt, h.gl, h.bg⟩
  simpa using ho
/-- What has been drawn so far, of at most N numbers a list. -/
def TDX (w wr : World) (g : Nat) (aa : Option Addr) (len cap B T N : Nat) : Prop := ∃ p e s u a n q b m r rs ls, TD w wr g aa len cap B T p e s u a n q b m r rs ls ∧ AP a n q b m r ∧ n ≤ N ∧ m ≤ N
/-- The same, its lists perhaps not apart. -/
def TDY (w wr : World) (g : Nat) (aa : Option Addr) (len cap B T N : Nat) : Prop := ∃ p e s u a n q b m r rs ls, TD w wr g aa len cap B T p e s u a n q b m r rs ls ∧ n ≤ N ∧ m ≤ N
theorem td_first {w w3 : World} {g : Nat} {aa : Option Addr} {len cap B : Nat} (p e s u : Int) (hr : w3.heap[w.heap.size]? = some (txnObj 0 0 0 0 none 0 0 none 0 0)) (hs : Src w3 g aa len cap) (hy : Bytes B w3 aa len) (hb : Below g w w3) (hg : g < w.heap.size) (hB : B ≤ g) :
    TD w (w3.alloc (txnObj p e s u none 0 0 none 0 0)) g aa len cap B w3.heap.size p e s u none 0 0 none 0 0 [] [] := by
  have hz := tblk_lt hr
  have hn := tbelow_new w3 (txnObj p e s u none 0 0 none 0 0)
  exact ⟨tblk hr hn, heap_alloc_new _ _, World.ownsRow_nil _ _ _ _, World.ownsRow_nil _ _ _ _, src_below hs hn (by omega), bytes_below hy hn (by omega), hb.trans (hn.mono (by omega)), hz, hg, hB⟩
end Go.Proofs.Ytgjomkgbpfklkaa
