/- What a law that asks for a transaction as an answer keeps, from call to call. -/
import Derived.Test.YtgjomkgbpfklkaaTxnTouch2
import Derived.Test.YtgjomkgbpfklkaaLawTxnRight
namespace Go.Proofs.Ytgjomkgbpfklkaa
open Go.RowKit

theorem tblk2 {u v : World} {i : Nat} {o : Obj} {r s : Option Nat} (h : u.heap[i]? = some o) (k : TG u v r s) (hr : some i ≠ r) (hs : some i ≠ s) : v.heap[i]? = some o := (k.2.2.2.2 i (tblk_lt h) hr hs).trans h
/-- The argument's box, and the specification's answer. -/
structure TKA (w u : World) (oA oB : Obj) (B : Nat) (a : Option Addr) (n q : Nat) (c : Option Addr) (m p : Nat) (xs ys : List Value) : Prop where
  ba : u.heap[w.heap.size]? = some oA
  blo : Below w.heap.size w u
  bb : u.heap[B]? = some oB
  own : OwnTxn u w.heap.size a n q c m p xs ys
  l1 : ∀ j, (Value.slice a n q).ownBlock = some j → j < B
  l2 : ∀ j, (Value.slice c m p).ownBlock = some j → j < B
  lt : w.heap.size < B
theorem TKA.mk0 {w w2 w3 : World} {oA oB : Obj} {a : Option Addr} {n q : Nat} {c : Option Addr} {m p : Nat} {xs ys : List Value} (ha : w3.heap[w.heap.size]? = some oA) (hb : Below w.heap.size w w3) (ho : OwnTxn w3 w2.heap.size a n q c m p xs ys) (h2 : w.heap.size ≤ w2.heap.size) : TKA w (w3.alloc oB) oA oB w3.heap.size a n q c m p xs ys :=
  ⟨tblk ha (tbelow_new _ _), tbelow_tr hb (tbelow_new _ _), heap_alloc_new _ _, (ho.mono h2).below (tbelow_new _ _), fun j e => (ho.1.lt j e).2, fun j e => (ho.2.1.lt j e).2, tblk_lt ha⟩
theorem TKA.below {w u v : World} {oA oB : Obj} {B : Nat} {a : Option Addr} {n q : Nat} {c : Option Addr} {m p : Nat} {xs ys : List Value} (h : TKA w u oA oB B a n q c m p xs ys) (hb : Below u.heap.size u v) : TKA w v oA oB B a n q c m p xs ys :=
  ⟨tblk h.ba hb, tbelow_tr h.blo hb, tblk h.bb hb, h.own.below hb, h.l1, h.l2, h.lt⟩
theorem TKA.grown {w u v : World} {oA oB : Obj} {B : Nat} {a : Option Addr} {n q : Nat} {c : Option Addr} {m p : Nat} {xs ys : List Value} {r s : Option Nat} (h : TKA w u oA oB B a n q c m p xs ys) (k : TG u v r s) (hr : ∀ i, r = some i → B < i) (hs : ∀ i, s = some i → B < i) : TKA w v oA oB B a n q c m p xs ys := by
  have hlt := h.lt
  have hn : ∀ i, i ≤ B → some i ≠ r ∧ some i ≠ s := fun i hi => ⟨fun e => by have := hr i e.symm; omega, fun e => by have := hs i e.symm; omega⟩
  refine ⟨tblk2 h.ba k (hn _ (by omega)).1 (hn _ (by omega)).2, TG.below h.blo h.blo.size k (fun i e => by have := hr i e; omega) (fun i e => by have := hs i e; omega), tblk2 h.bb k (hn _ (by omega)).1 (hn _ (by omega)).2, ⟨k.kept h.own.1 fun i e => hn i ?_, k.kept h.own.2.1 fun i e => hn i ?_, h.own.2.2⟩, h.l1, h.l2, h.lt⟩
  · have := h.l1 i e; omega
  · have := h.l2 i e; omega
/-- A block O of its own, and a ring whose lists lie between base and O. -/
structure TKR (u : World) (base O : Nat) (o : Obj) (a : Option Addr) (n q : Nat) (c : Option Addr) (m p : Nat) (xs ys : List Value) : Prop where
  bo : u.heap[O]? = some o
  own : OwnTxn u (base + 1) a n q c m p xs ys
  l1 : ∀ j, (Value.slice a n q).ownBlock = some j → j < O
  l2 : ∀ j, (Value.slice c m p).ownBlock = some j → j < O
  lt : base < O
theorem TKR.mk0 {w3 w4 : World} {o3 o : Obj} {a : Option Addr} {n q : Nat} {c : Option Addr} {m p : Nat} {xs ys : List Value} (ho : OwnTxn w4 (w3.alloc o3).heap.size a n q c m p xs ys) (hb : Below (w3.alloc o3).heap.size (w3.alloc o3) w4) : TKR (w4.alloc o) w3.heap.size w4.heap.size o a n q c m p xs ys := by
  have hz := hb.size
  rw [World.size_alloc] at ho hz
  exact ⟨heap_alloc_new _ _, ho.below (tbelow_new _ _), fun j e => (ho.1.lt j e).2, fun j e => (ho.2.1.lt j e).2, hz⟩
theorem TKR.below {u v : World} {base O : Nat} {o : Obj} {a : Option Addr} {n q : Nat} {c : Option Addr} {m p : Nat} {xs ys : List Value} (h : TKR u base O o a n q c m p xs ys) (hb : Below u.heap.size u v) : TKR v base O o a n q c m p xs ys :=
  ⟨tblk h.bo hb, h.own.below hb, h.l1, h.l2, h.lt⟩
theorem TKR.grown {u v : World} {base O : Nat} {o : Obj} {a : Option Addr} {n q : Nat} {c : Option Addr} {m p : Nat} {xs ys : List Value} {r s : Option Nat} (h : TKR u base O o a n q c m p xs ys) (k : TG u v r s) (hr : ∀ i, r = some i → i < base) (hs : ∀ i, s = some i → i < base) : TKR v base O o a n q c m p xs ys := by
  have hlt := h.lt
  have hn : ∀ i, base ≤ i → some i ≠ r ∧ some i ≠ s := fun i hi => ⟨fun e => by have := hr i e.symm; omega, fun e => by have := hs i e.symm; omega⟩
  refine ⟨tblk2 h.bo k (hn _ (by omega)).1 (hn _ (by omega)).2, ⟨k.kept h.own.1 fun i e => hn i ?_, k.kept h.own.2.1 fun i e => hn i ?_, h.own.2.2⟩, h.l1, h.l2, h.lt⟩
  · have := (h.own.1.lt i e).1; omega
  · have := (h.own.2.1.lt i e).1; omega
theorem TKR.mark {u v : World} {base O : Nat} {o : Obj} {a : Option Addr} {n q : Nat} {c : Option Addr} {m p : Nat} {xs ys xs' ys' : List Value} (h : TKR u base O o a n q c m p xs ys) (ho : OwnTxn v (base + 1) a n q c m p xs' ys') (k : TG u v (Value.slice a n q).ownBlock (Value.slice c m p).ownBlock) : TKR v base O o a n q c m p xs' ys' :=
  ⟨tblk2 h.bo k (fun e => by have := h.l1 _ e.symm; omega) (fun e => by have := h.l2 _ e.symm; omega), ho, h.l1, h.l2, h.lt⟩
theorem TKA.mark {w u v : World} {oA oB o : Obj} {B O : Nat} {a a' : Option Addr} {n q n' q' : Nat} {c c' : Option Addr} {m p m' p' base : Nat} {xs ys xs' ys' : List Value} (h : TKA w u oA oB B a n q c m p xs ys) (hx : TKR u base O o a' n' q' c' m' p' xs' ys') (hB : B ≤ base) (k : TG u v (Value.slice a' n' q').ownBlock (Value.slice c' m' p').ownBlock) : TKA w v oA oB B a n q c m p xs ys :=
  h.grown k (fun i e => by have := (hx.own.1.lt i e).1; omega) (fun i e => by have := (hx.own.2.1.lt i e).1; omega)
theorem TKR.mark2 {u v : World} {base base' O O' : Nat} {o o' : Obj} {a a' : Option Addr} {n q n' q' : Nat} {c c' : Option Addr} {m p m' p' : Nat} {xs ys xs' ys' : List Value} (h : TKR u base O o a n q c m p xs ys) (hx : TKR u base' O' o' a' n' q' c' m' p' xs' ys') (hB : O' ≤ base) (k : TG u v (Value.slice a' n' q').ownBlock (Value.slice c' m' p').ownBlock) : TKR v base O o a n q c m p xs ys :=
  h.grown k (fun i e => by have := hx.l1 i e; omega) (fun i e => by have := hx.l2 i e; omega)
theorem own_tfit {w : World} {base a c rl ll : Nat} {rs ls : List Int} (h : OwnTxn w base (some ⟨a, 0, none⟩) rl rl (some ⟨c, 0, none⟩) ll ll (numCells rs) (numCells ls)) (hr : rl ≤ 1048576) (hl : ll ≤ 1048576) :
    TFit w (some ⟨a, 0, none⟩) rl rl (some ⟨c, 0, none⟩) ll ll rs ls := by
  obtain ⟨a1, q1, e1, h1⟩ := own_numIn h.1
  obtain ⟨a2, q2, e2, h2⟩ := own_numIn h.2.1
  simp only [Value.slice.injEq] at e1 e2
  obtain ⟨rfl, _, rfl⟩ := e1
  obtain ⟨rfl, _, rfl⟩ := e2
  exact ⟨h1, h2, hr, hl, by unfold maxLen; omega, by unfold maxLen; omega⟩
end Go.Proofs.Ytgjomkgbpfklkaa
