import Derived.Test.YtopbfjdjlgecpaaGreatDoorLawRing5
import Derived.Test.YtopbfjdjlgecpaaGreatDoorRingAsk
import Derived.Deep.DeepCutAuto
import Derived.Test.YtopbfjdjlgecpaaGreatDoorRingRes
/- The laws of RingRight, RingEnd, RingRoom. -/
namespace Go.Proofs.YtopbfjdjlgecpaaGreatDoor
open Go.RowKit

theorem own_rin {w : World} {base a c rl cl : Nat} {recs : List ByteArray} {curs : List (Int × Int)} (h : OwnRing w base (some ⟨a, 0, none⟩) rl rl (some ⟨c, 0, none⟩) cl cl (recs.map Value.string) (curCells curs)) (hs : ∀ s ∈ recs, s.size ≤ 1048576) (hr : rl ≤ 1048576) (hc : cl ≤ 1048576) :
    RIn w (some ⟨a, 0, none⟩) rl rl (some ⟨c, 0, none⟩) cl cl recs curs :=
  ⟨own_strs h.1, own_curs h.2, (fun x e => by cases e; exact (h.1.lt a rfl).2), (fun x e => by cases e; exact (h.2.lt c rfl).2), (fun e => by cases e), (fun e => by cases e), hs, hr, hc⟩
theorem OwnRing.below {w w' : World} {base : Nat} {ra : Option Addr} {rl rc : Nat} {ca : Option Addr} {cl cc : Nat} {xs ys : List Value} (h : OwnRing w base ra rl rc ca cl cc xs ys) (hb : Below w.heap.size w w') : OwnRing w' base ra rl rc ca cl cc xs ys :=
  ⟨h.1.kept (below_grown hb) (by cases (Value.slice ra rl rc).ownBlock <;> simp), h.2.kept (below_grown hb) (by cases (Value.slice ca cl cc).ownBlock <;> simp)⟩
/-- What the laws ask of the ring that is handed in. -/
structure LIn (w : World) (ra : Option Addr) (rl : Nat) (ca : Option Addr) (cl : Nat) (recs : List ByteArray) (curs : List (Int × Int)) : Prop where
  strs : Strs w ra rl recs
  curs : Curs w ca cl curs
  sz : ∀ s ∈ recs, s.size ≤ maxLen
  rle : rl ≤ maxLen
  cle : cl ≤ maxLen
abbrev lringObj (cap first : Int) (ra : Option Addr) (rl rc : Nat) (ca : Option Addr) (cl cc : Nat) : Obj := .cells #[.int .i64 cap, .int .i64 first, .slice ra rl rc, .slice ca cl cc] 51 (0, 0)
end Go.Proofs.YtopbfjdjlgecpaaGreatDoor
/- What a law that asks for a ring's answer keeps, from call to call. -/
namespace Go.Proofs.YtopbfjdjlgecpaaGreatDoor
open Go.RowKit

abbrev outObj (cap first : Int) (ra : Option Addr) (rl rc : Nat) (ca : Option Addr) (cl cc : Nat) (k t : Int) (d : ByteArray) (c : Int) : Obj := .cells #[.int .i64 cap, .int .i64 first, .slice ra rl rc, .slice ca cl cc, .int .i64 k, .int .i64 t, .string d, .int .i64 c] 32 (0, 0)
theorem blk_lt {u : World} {i : Nat} {o : Obj} (h : u.heap[i]? = some o) : i < u.heap.size := (Array.getElem?_eq_some_iff.1 h).1
theorem blk {u v : World} {i : Nat} {o : Obj} (h : u.heap[i]? = some o) (hb : Below u.heap.size u v) : v.heap[i]? = some o := (hb.block i (blk_lt h)).trans h
theorem blk2 {u v : World} {i : Nat} {o : Obj} {r s : Option Nat} (h : u.heap[i]? = some o) (k : Grown2 u v r s) (hr : some i ≠ r) (hs : some i ≠ s) : v.heap[i]? = some o := (k.2.2.2.2 i (blk_lt h) hr hs).trans h
theorem below_new (w : World) (o : Obj) : Below w.heap.size w (w.alloc o) := (Below.refl _ _).alloc (Nat.le_refl _) _
/-- The argument's box, and the specification's answer. -/
structure KA (w u : World) (oA oB : Obj) (B : Nat) (a : Option Addr) (n q : Nat) (c : Option Addr) (m p : Nat) (xs ys : List Value) : Prop where
  ba : u.heap[w.heap.size]? = some oA
  blo : Below w.heap.size w u
  bb : u.heap[B]? = some oB
  own : OwnRing u w.heap.size a n q c m p xs ys
  l1 : ∀ j, (Value.slice a n q).ownBlock = some j → j < B
  l2 : ∀ j, (Value.slice c m p).ownBlock = some j → j < B
  lt : w.heap.size < B
theorem KA.mk0 {w w2 w3 : World} {oA oB : Obj} {a : Option Addr} {n q : Nat} {c : Option Addr} {m p : Nat} {xs ys : List Value} (ha : w3.heap[w.heap.size]? = some oA) (hb : Below w.heap.size w w3) (ho : OwnRing w3 w2.heap.size a n q c m p xs ys) (h2 : w.heap.size ≤ w2.heap.size) : KA w (w3.alloc oB) oA oB w3.heap.size a n q c m p xs ys :=
  ⟨blk ha (below_new _ _), below_tr hb (below_new _ _), heap_alloc_new _ _, OwnRing.below ⟨ho.1.mono h2, ho.2.mono h2⟩ (below_new _ _), fun j e => (ho.1.lt j e).2, fun j e => (ho.2.lt j e).2, blk_lt ha⟩
theorem KA.below {w u v : World} {oA oB : Obj} {B : Nat} {a : Option Addr} {n q : Nat} {c : Option Addr} {m p : Nat} {xs ys : List Value} (h : KA w u oA oB B a n q c m p xs ys) (hb : Below u.heap.size u v) : KA w v oA oB B a n q c m p xs ys :=
  ⟨blk h.ba hb, below_tr h.blo hb, blk h.bb hb, h.own.below hb, h.l1, h.l2, h.lt⟩
theorem KA.grown {w u v : World} {oA oB : Obj} {B : Nat} {a : Option Addr} {n q : Nat} {c : Option Addr} {m p : Nat} {xs ys : List Value} {r s : Option Nat} (h : KA w u oA oB B a n q c m p xs ys) (k : Grown2 u v r s) (hr : ∀ i, r = some i → B < i) (hs : ∀ i, s = some i → B < i) : KA w v oA oB B a n q c m p xs ys := by
  have hlt := h.lt
  have hn : ∀ i, i ≤ B → some i ≠ r ∧ some i ≠ s := fun i hi => ⟨fun e => by have := hr i e.symm; omega, fun e => by have := hs i e.symm; omega⟩
  refine ⟨blk2 h.ba k (hn _ (by omega)).1 (hn _ (by omega)).2, Grown2.below h.blo h.blo.size k (fun i e => by have := hr i e; omega) (fun i e => by have := hs i e; omega), blk2 h.bb k (hn _ (by omega)).1 (hn _ (by omega)).2, ⟨k.kept h.own.1 fun i e => hn i ?_, k.kept h.own.2 fun i e => hn i ?_⟩, h.l1, h.l2, h.lt⟩
  · have := h.l1 i e; omega
  · have := h.l2 i e; omega
/-- A block O of its own, and a ring whose lists lie between base and O. -/
structure KR (u : World) (base O : Nat) (o : Obj) (a : Option Addr) (n q : Nat) (c : Option Addr) (m p : Nat) (xs ys : List Value) : Prop where
  bo : u.heap[O]? = some o
  own : OwnRing u (base + 1) a n q c m p xs ys
  l1 : ∀ j, (Value.slice a n q).ownBlock = some j → j < O
  l2 : ∀ j, (Value.slice c m p).ownBlock = some j → j < O
  lt : base < O
theorem KR.mk0 {w3 w4 : World} {o3 o : Obj} {a : Option Addr} {n q : Nat} {c : Option Addr} {m p : Nat} {xs ys : List Value} (ho : OwnRing w4 (w3.alloc o3).heap.size a n q c m p xs ys) (hb : Below (w3.alloc o3).heap.size (w3.alloc o3) w4) : KR (w4.alloc o) w3.heap.size w4.heap.size o a n q c m p xs ys := by
  have hz := hb.size
  rw [World.size_alloc] at ho hz
  exact ⟨heap_alloc_new _ _, ho.below (below_new _ _), fun j e => (ho.1.lt j e).2, fun j e => (ho.2.lt j e).2, hz⟩
theorem KR.below {u v : World} {base O : Nat} {o : Obj} {a : Option Addr} {n q : Nat} {c : Option Addr} {m p : Nat} {xs ys : List Value} (h : KR u base O o a n q c m p xs ys) (hb : Below u.heap.size u v) : KR v base O o a n q c m p xs ys :=
  ⟨blk h.bo hb, h.own.below hb, h.l1, h.l2, h.lt⟩
theorem KR.grown {u v : World} {base O : Nat} {o : Obj} {a : Option Addr} {n q : Nat} {c : Option Addr} {m p : Nat} {xs ys : List Value} {r s : Option Nat} (h : KR u base O o a n q c m p xs ys) (k : Grown2 u v r s) (hr : ∀ i, r = some i → i < base) (hs : ∀ i, s = some i → i < base) : KR v base O o a n q c m p xs ys := by
  have hlt := h.lt
  have hn : ∀ i, base ≤ i → some i ≠ r ∧ some i ≠ s := fun i hi => ⟨fun e => by have := hr i e.symm; omega, fun e => by have := hs i e.symm; omega⟩
  refine ⟨blk2 h.bo k (hn _ (by omega)).1 (hn _ (by omega)).2, ⟨k.kept h.own.1 fun i e => hn i ?_, k.kept h.own.2 fun i e => hn i ?_⟩, h.l1, h.l2, h.lt⟩
  · have := (h.own.1.lt i e).1; omega
  · have := (h.own.2.lt i e).1; omega
theorem KR.mark {u v : World} {base O : Nat} {o : Obj} {a : Option Addr} {n q : Nat} {c : Option Addr} {m p : Nat} {xs ys xs' ys' : List Value} (h : KR u base O o a n q c m p xs ys) (ho : OwnRing v (base + 1) a n q c m p xs' ys') (k : Grown2 u v (Value.slice a n q).ownBlock (Value.slice c m p).ownBlock) : KR v base O o a n q c m p xs' ys' :=
  ⟨blk2 h.bo k (fun e => by have := h.l1 _ e.symm; omega) (fun e => by have := h.l2 _ e.symm; omega), ho, h.l1, h.l2, h.lt⟩
theorem KA.mark {w u v : World} {oA oB o : Obj} {B O : Nat} {a a' : Option Addr} {n q n' q' : Nat} {c c' : Option Addr} {m p m' p' base : Nat} {xs ys xs' ys' : List Value} (h : KA w u oA oB B a n q c m p xs ys) (hx : KR u base O o a' n' q' c' m' p' xs' ys') (hB : B ≤ base) (k : Grown2 u v (Value.slice a' n' q').ownBlock (Value.slice c' m' p').ownBlock) : KA w v oA oB B a n q c m p xs ys :=
  h.grown k (fun i e => by have := (hx.own.1.lt i e).1; omega) (fun i e => by have := (hx.own.2.lt i e).1; omega)
theorem KR.mark2 {u v : World} {base base' O O' : Nat} {o o' : Obj} {a a' : Option Addr} {n q n' q' : Nat} {c c' : Option Addr} {m p m' p' : Nat} {xs ys xs' ys' : List Value} (h : KR u base O o a n q c m p xs ys) (hx : KR u base' O' o' a' n' q' c' m' p' xs' ys') (hB : O' ≤ base) (k : Grown2 u v (Value.slice a' n' q').ownBlock (Value.slice c' m' p').ownBlock) : KR v base O o a n q c m p xs ys :=
  h.grown k (fun i e => by have := hx.l1 i e; omega) (fun i e => by have := hx.l2 i e; omega)
theorem own_rfit {w : World} {base a c rl cl : Nat} {recs : List ByteArray} {curs : List (Int × Int)} (h : OwnRing w base (some ⟨a, 0, none⟩) rl rl (some ⟨c, 0, none⟩) cl cl (recs.map Value.string) (curCells curs)) (hs : ∀ s ∈ recs, s.size ≤ 1048576) (hr : rl ≤ 1048576) (hc : cl ≤ 1048576) :
    RFit w (some ⟨a, 0, none⟩) rl rl (some ⟨c, 0, none⟩) cl cl recs curs := by
  obtain ⟨a1, q1, e1, h1⟩ := own_strIn h.1
  obtain ⟨a2, q2, e2, h2⟩ := own_curIn h.2
  simp only [Value.slice.injEq] at e1 e2
  obtain ⟨rfl, _, rfl⟩ := e1
  obtain ⟨rfl, _, rfl⟩ := e2
  exact ⟨h1, h2, hs, hr, hc, by unfold maxLen; omega, by unfold maxLen; omega⟩
end Go.Proofs.YtopbfjdjlgecpaaGreatDoor
