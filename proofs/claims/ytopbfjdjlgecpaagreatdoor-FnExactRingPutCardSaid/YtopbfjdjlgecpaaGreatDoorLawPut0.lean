import Derived.Test.YtopbfjdjlgecpaaGreatDoorRecImpl
import Derived.Test.YtopbfjdjlgecpaaGreatDoorLawRingOut0
import Derived.Test.YtopbfjdjlgecpaaGreatDoorSpecAt
/- The laws of RecRight, in its own steps. -/
namespace Go.Proofs.YtopbfjdjlgecpaaGreatDoor
open Go.RowKit

theorem law_szRec_no (k t : Int) (d : ByteArray) (w : World) (hm : d.size ≤ maxLen) (h : 1048576 < d.size) :
    Calls Tryz.prog 33 #[recV k t d, .int .i64 1048576] w fun e w' => e = .returned (.int .i64 (-1)) ∧ Below w.heap.size w w' := by
  unfold maxLen at hm
  go_enter Tryz.func33, Tryz.ntmps33
  go_wp2
  go_ret
  exact ⟨rfl, (Below.refl _ _).alloc (Nat.le_refl _) _⟩
theorem law_szRec_yes (k t : Int) (d : ByteArray) (w : World) (h : d.size ≤ 1048576) :
    Calls Tryz.prog 33 #[recV k t d, .int .i64 1048576] w fun e w' => e = .returned (.int .i64 (1048576 - (d.size : Int))) ∧ Below w.heap.size w w' := by
  go_enter Tryz.func33, Tryz.ntmps33
  go_wp2
  go_ret
  exact ⟨rfl, (Below.refl _ _).alloc (Nat.le_refl _) _⟩
theorem law_toRec (k t : Int) (d : ByteArray) (w : World) :
    Calls Tryz.prog 35 #[recV k t d] w fun e w' => e = .returned (recV k t d) ∧ Below w.heap.size w w' := by
  go_enter Tryz.func35, Tryz.ntmps35
  go_wp2
  exact bodyPost_ret (v := recV k t d) (by simp [results, Tryz.results35, go_sem]) rfl ⟨rfl, (((Below.refl _ _).alloc (Nat.le_refl _) _).alloc (by simp) _).alloc (by simp; omega) _⟩

end Go.Proofs.YtopbfjdjlgecpaaGreatDoor
/- What RingPut's law keeps from call to call, where an answer's box may be made ahead of its lists or behind them. -/
namespace Go.Proofs.YtopbfjdjlgecpaaGreatDoor
open Go.RowKit

abbrev lrecObj (k t : Int) (d : ByteArray) : Obj := .cells #[.int .i64 k, .int .i64 t, .string d] 52 (0, 0)
theorem heap_set8 (u : World) (b i : Nat) (h : i ≠ b) (v0 v1 v2 v3 v4 v5 v6 v7 : Value) : (set8 u b v0 v1 v2 v3 v4 v5 v6 v7).heap[i]? = u.heap[i]? := by
  unfold set8
  rw [Below.heap_setCell _ _ _ _ h, Below.heap_setCell _ _ _ _ h, Below.heap_setCell _ _ _ _ h, Below.heap_setCell _ _ _ _ h, Below.heap_setCell _ _ _ _ h, Below.heap_setCell _ _ _ _ h, Below.heap_setCell _ _ _ _ h, Below.heap_setCell _ _ _ _ h]
theorem Grown2.set8 (u : World) (b : Nat) (v0 v1 v2 v3 v4 v5 v6 v7 : Value) : Grown2 u (set8 u b v0 v1 v2 v3 v4 v5 v6 v7) (some b) none := by
  have hb := below_set8 (Below.refl b u) b (Nat.le_refl _) v0 v1 v2 v3 v4 v5 v6 v7
  exact ⟨hb.os, hb.tape, hb.output, hb.size, fun k _ h1 _ => heap_set8 u b k (fun e => h1 (by rw [e])) v0 v1 v2 v3 v4 v5 v6 v7⟩
/-- A box that was made for an answer, and nothing has been laid in it yet. -/
structure BoxAt (lo : Nat) (u : World) (b : Nat) : Prop where
  box : u.heap[b]? = some outObj0
  lo : lo ≤ b
theorem boxNew {lo : Nat} {W v : World} (h : lo ≤ W.heap.size) (hb : Below (W.alloc outObj0).heap.size (W.alloc outObj0) v) : BoxAt lo v W.heap.size := ⟨blk (heap_alloc_new _ _) hb, h⟩
theorem boxKeep {lo : Nat} {u v : World} {b : Nat} (h : BoxAt lo u b) (hb : Below u.heap.size u v) : BoxAt lo v b := ⟨blk h.box hb, h.lo⟩
theorem boxLtNew (W : World) : W.heap.size < (W.alloc outObj0).heap.size := by rw [World.size_alloc]; omega
/-- The two arguments' boxes, and the specification's answer: all of it below N. -/
structure KP (w u : World) (oA oR oB : Obj) (B N : Nat) (a : Option Addr) (n q : Nat) (c : Option Addr) (m p : Nat) (xs ys : List Value) : Prop where
  ba : u.heap[w.heap.size]? = some oA
  br : u.heap[w.heap.size + 1]? = some oR
  blo : Below w.heap.size w u
  bb : u.heap[B]? = some oB
  own : OwnRing u w.heap.size a n q c m p xs ys
  l1 : ∀ j, (Value.slice a n q).ownBlock = some j → j < N
  l2 : ∀ j, (Value.slice c m p).ownBlock = some j → j < N
  ltB : B < N
  lt : w.heap.size + 1 < N
theorem KP.below {w u v : World} {oA oR oB : Obj} {B N : Nat} {a : Option Addr} {n q : Nat} {c : Option Addr} {m p : Nat} {xs ys : List Value} (h : KP w u oA oR oB B N a n q c m p xs ys) (hb : Below u.heap.size u v) : KP w v oA oR oB B N a n q c m p xs ys :=
  ⟨blk h.ba hb, blk h.br hb, below_tr h.blo hb, blk h.bb hb, h.own.below hb, h.l1, h.l2, h.ltB, h.lt⟩
theorem KP.grown {w u v : World} {oA oR oB : Obj} {B N : Nat} {a : Option Addr} {n q : Nat} {c : Option Addr} {m p : Nat} {xs ys : List Value} {r s : Option Nat} (h : KP w u oA oR oB B N a n q c m p xs ys) (k : Grown2 u v r s) (hr : ∀ i, r = some i → N ≤ i) (hs : ∀ i, s = some i → N ≤ i) : KP w v oA oR oB B N a n q c m p xs ys := by
  have hlt := h.lt
  have hB := h.ltB
  have hn : ∀ i, i < N → some i ≠ r ∧ some i ≠ s := fun i hi => ⟨fun e => by have := hr i e.symm; omega, fun e => by have := hs i e.symm; omega⟩
  refine ⟨blk2 h.ba k (hn _ (by omega)).1 (hn _ (by omega)).2, blk2 h.br k (hn _ (by omega)).1 (hn _ (by omega)).2, Grown2.below h.blo h.blo.size k (fun i e => by have := hr i e; omega) (fun i e => by have := hs i e; omega), blk2 h.bb k (hn _ (by omega)).1 (hn _ (by omega)).2, ⟨k.kept h.own.1 fun i e => hn i (h.l1 i e), k.kept h.own.2 fun i e => hn i (h.l2 i e)⟩, h.l1, h.l2, h.ltB, h.lt⟩
theorem KP.set8 {w u : World} {oA oR oB : Obj} {B N b : Nat} {a : Option Addr} {n q : Nat} {c : Option Addr} {m p : Nat} {xs ys : List Value} (h : KP w u oA oR oB B N a n q c m p xs ys) (hb : N ≤ b) (v0 v1 v2 v3 v4 v5 v6 v7 : Value) : KP w (set8 u b v0 v1 v2 v3 v4 v5 v6 v7) oA oR oB B N a n q c m p xs ys :=
  h.grown (Grown2.set8 u b v0 v1 v2 v3 v4 v5 v6 v7) (fun i e => by cases e; exact hb) (fun i e => by cases e)
/-- A box O, and a ring of its own: all of it from base on, and below T. -/
structure KX (u : World) (base O T : Nat) (o : Obj) (a : Option Addr) (n q : Nat) (c : Option Addr) (m p : Nat) (xs ys : List Value) : Prop where
  bo : u.heap[O]? = some o
  own : OwnRing u base a n q c m p xs ys
  l1 : ∀ j, (Value.slice a n q).ownBlock = some j → j < T ∧ j ≠ O
  l2 : ∀ j, (Value.slice c m p).ownBlock = some j → j < T ∧ j ≠ O
  lo : base ≤ O
  hi : O < T
theorem KX.below {u v : World} {base O T : Nat} {o : Obj} {a : Option Addr} {n q : Nat} {c : Option Addr} {m p : Nat} {xs ys : List Value} (h : KX u base O T o a n q c m p xs ys) (hb : Below u.heap.size u v) : KX v base O T o a n q c m p xs ys :=
  ⟨blk h.bo hb, h.own.below hb, h.l1, h.l2, h.lo, h.hi⟩
theorem KX.grown {u v : World} {base O T : Nat} {o : Obj} {a : Option Addr} {n q : Nat} {c : Option Addr} {m p : Nat} {xs ys : List Value} {r s : Option Nat} (h : KX u base O T o a n q c m p xs ys) (k : Grown2 u v r s) (hr : ∀ i, r = some i → i < base ∨ T ≤ i) (hs : ∀ i, s = some i → i < base ∨ T ≤ i) : KX v base O T o a n q c m p xs ys := by
  have hlo := h.lo
  have hhi := h.hi
  have hn : ∀ i, base ≤ i → i < T → some i ≠ r ∧ some i ≠ s := fun i h1 h2 => ⟨fun e => by have := hr i e.symm; omega, fun e => by have := hs i e.symm; omega⟩
  exact ⟨blk2 h.bo k (hn _ hlo hhi).1 (hn _ hlo hhi).2, ⟨k.kept h.own.1 fun i e => hn i (h.own.1.lt i e).1 (h.l1 i e).1, k.kept h.own.2 fun i e => hn i (h.own.2.lt i e).1 (h.l2 i e).1⟩, h.l1, h.l2, h.lo, h.hi⟩
theorem KX.set8 {u : World} {base O T b : Nat} {o : Obj} {a : Option Addr} {n q : Nat} {c : Option Addr} {m p : Nat} {xs ys : List Value} (h : KX u base O T o a n q c m p xs ys) (hb : T ≤ b) (v0 v1 v2 v3 v4 v5 v6 v7 : Value) : KX (set8 u b v0 v1 v2 v3 v4 v5 v6 v7) base O T o a n q c m p xs ys :=
  h.grown (Grown2.set8 u b v0 v1 v2 v3 v4 v5 v6 v7) (fun i e => by cases e; exact .inr hb) (fun i e => by cases e)
theorem KX.mark {u v : World} {base O T : Nat} {o : Obj} {a : Option Addr} {n q : Nat} {c : Option Addr} {m p : Nat} {xs ys xs' ys' : List Value} (h : KX u base O T o a n q c m p xs ys) (ho : OwnRing v base a n q c m p xs' ys') (k : Grown2 u v (Value.slice a n q).ownBlock (Value.slice c m p).ownBlock) : KX v base O T o a n q c m p xs' ys' :=
  ⟨blk2 h.bo k (fun e => (h.l1 _ e.symm).2 rfl) (fun e => (h.l2 _ e.symm).2 rfl), ho, h.l1, h.l2, h.lo, h.hi⟩
theorem KP.mark {w u v : World} {oA oR oB o : Obj} {B N O T base : Nat} {a a' : Option Addr} {n q n' q' : Nat} {c c' : Option Addr} {m p m' p' : Nat} {xs ys xs' ys' : List Value} (h : KP w u oA oR oB B N a n q c m p xs ys) (hx : KX u base O T o a' n' q' c' m' p' xs' ys') (hN : N ≤ base) (k : Grown2 u v (Value.slice a' n' q').ownBlock (Value.slice c' m' p').ownBlock) : KP w v oA oR oB B N a n q c m p xs ys :=
  h.grown k (fun i e => by have := (hx.own.1.lt i e).1; omega) (fun i e => by have := (hx.own.2.lt i e).1; omega)
theorem KX.mark2 {u v : World} {base base' O O' T T' : Nat} {o o' : Obj} {a a' : Option Addr} {n q n' q' : Nat} {c c' : Option Addr} {m p m' p' : Nat} {xs ys xs' ys' : List Value} (h : KX u base O T o a n q c m p xs ys) (hx : KX u base' O' T' o' a' n' q' c' m' p' xs' ys') (hT : T' ≤ base) (k : Grown2 u v (Value.slice a' n' q').ownBlock (Value.slice c' m' p').ownBlock) : KX v base O T o a n q c m p xs ys :=
  h.grown k (fun i e => by have := (hx.l1 i e).1; omega) (fun i e => by have := (hx.l2 i e).1; omega)
/-- The box behind the lists. -/
theorem kp_a {w w3 : World} {oA oR oB : Obj} {b3 : Nat} {a : Option Addr} {n q : Nat} {c : Option Addr} {m p : Nat} {xs ys : List Value} (ha : w3.heap[w.heap.size]? = some oA) (hr : w3.heap[w.heap.size + 1]? = some oR) (hb : Below w.heap.size w w3) (ho : OwnRing w3 b3 a n q c m p xs ys) (h2 : w.heap.size ≤ b3) : KP w (w3.alloc oB) oA oR oB w3.heap.size (w3.alloc oB).heap.size a n q c m p xs ys := by
  have hz : (w3.alloc oB).heap.size = w3.heap.size + 1 := World.size_alloc _ _
  have hl := blk_lt hr
  exact ⟨blk ha (below_new _ _), blk hr (below_new _ _), below_tr hb (below_new _ _), heap_alloc_new _ _, OwnRing.below ⟨ho.1.mono h2, ho.2.mono h2⟩ (below_new _ _), fun j e => by have := (ho.1.lt j e).2; omega, fun j e => by have := (ho.2.lt j e).2; omega, by omega, by omega⟩
/-- The lists behind the box. -/
theorem kp_b {w w3 : World} {oA oR : Obj} {lo b b3 : Nat} {a : Option Addr} {n q : Nat} {c : Option Addr} {m p : Nat} {xs ys : List Value} (ha : w3.heap[w.heap.size]? = some oA) (hr : w3.heap[w.heap.size + 1]? = some oR) (hb : Below w.heap.size w w3) (ho : OwnRing w3 b3 a n q c m p xs ys) (hx : BoxAt lo w3 b) (hlo : w.heap.size + 2 ≤ lo) (hb3 : b < b3) (v0 v1 v2 v3 v4 v5 v6 v7 : Value) : KP w (set8 w3 b v0 v1 v2 v3 v4 v5 v6 v7) oA oR (.cells #[v0, v1, v2, v3, v4, v5, v6, v7] 32 (0, 0)) b (set8 w3 b v0 v1 v2 v3 v4 v5 v6 v7).heap.size a n q c m p xs ys := by
  have hz := (below_set8 (Below.refl b w3) b (Nat.le_refl _) v0 v1 v2 v3 v4 v5 v6 v7).size
  have hl := blk_lt hx.box
  have h1 := hx.lo
  exact ⟨(heap_set8 w3 b _ (by omega) v0 v1 v2 v3 v4 v5 v6 v7).trans ha, (heap_set8 w3 b _ (by omega) v0 v1 v2 v3 v4 v5 v6 v7).trans hr, below_set8 hb b (by omega) v0 v1 v2 v3 v4 v5 v6 v7, at_box hx.box, ⟨(own_set8 ho.1 b hb3 v0 v1 v2 v3 v4 v5 v6 v7).mono (by omega), (own_set8 ho.2 b hb3 v0 v1 v2 v3 v4 v5 v6 v7).mono (by omega)⟩, fun j e => Nat.lt_of_lt_of_le (ho.1.lt j e).2 hz, fun j e => Nat.lt_of_lt_of_le (ho.2.lt j e).2 hz, Nat.lt_of_lt_of_le hl hz, Nat.lt_of_lt_of_le (blk_lt hr) hz⟩
theorem kx_a {w4 : World} {N b4 : Nat} {o : Obj} {a : Option Addr} {n q : Nat} {c : Option Addr} {m p : Nat} {xs ys : List Value} (ho : OwnRing w4 b4 a n q c m p xs ys) (hN : N ≤ b4) (h4 : b4 ≤ w4.heap.size) : KX (w4.alloc o) N w4.heap.size (w4.alloc o).heap.size o a n q c m p xs ys := by
  have hz : (w4.alloc o).heap.size = w4.heap.size + 1 := World.size_alloc _ _
  exact ⟨heap_alloc_new _ _, OwnRing.below ⟨ho.1.mono hN, ho.2.mono hN⟩ (below_new _ _), fun j e => by have := (ho.1.lt j e).2; omega, fun j e => by have := (ho.2.lt j e).2; omega, by omega, by omega⟩
theorem kx_b {w5 : World} {T lo b b5 : Nat} {a : Option Addr} {n q : Nat} {c : Option Addr} {m p : Nat} {xs ys : List Value} (ho : OwnRing w5 b5 a n q c m p xs ys) (hx : BoxAt lo w5 b) (hlo : T ≤ lo) (hb5 : b < b5) (v0 v1 v2 v3 v4 v5 v6 v7 : Value) : KX (set8 w5 b v0 v1 v2 v3 v4 v5 v6 v7) T b (set8 w5 b v0 v1 v2 v3 v4 v5 v6 v7).heap.size (.cells #[v0, v1, v2, v3, v4, v5, v6, v7] 32 (0, 0)) a n q c m p xs ys := by
  have hz := (below_set8 (Below.refl b w5) b (Nat.le_refl _) v0 v1 v2 v3 v4 v5 v6 v7).size
  have hl := blk_lt hx.box
  have h1 := hx.lo
  exact ⟨at_box hx.box, ⟨(own_set8 ho.1 b hb5 v0 v1 v2 v3 v4 v5 v6 v7).mono (by omega), (own_set8 ho.2 b hb5 v0 v1 v2 v3 v4 v5 v6 v7).mono (by omega)⟩, fun j e => ⟨Nat.lt_of_lt_of_le (ho.1.lt j e).2 hz, by have := (ho.1.lt j e).1; omega⟩, fun j e => ⟨Nat.lt_of_lt_of_le (ho.2.lt j e).2 hz, by have := (ho.2.lt j e).1; omega⟩, by omega, Nat.lt_of_lt_of_le hl hz⟩
end Go.Proofs.YtopbfjdjlgecpaaGreatDoor
