import Derived.Test.YtdepaeajfldfbaaGreatDoorRingCopy
import Derived.Test.YtdepaeajfldfbaaGreatDoorRingAsk
import Derived.Test.YtdepaeajfldfbaaGreatDoorRingWork6
import Derived.Test.YtdepaeajfldfbaaGreatDoorLawRingAsk
/- What is answered of a ring: the ring, a record, a code; and the small makers of rings. -/
namespace Go.Proofs.YtdepaeajfldfbaaGreatDoor
open Go.RowKit
variable {cap first : Int} {ra ca : Option Addr} {rl rc cl cc : Nat}

/-- An answer. -/
structure RO where
  cap : Int
  first : Int
  recs : List ByteArray
  curs : List (Int × Int)
  k : Int
  t : Int
  d : ByteArray
  c : Int
/-- What is answered beside a code. -/
def RO.ill (c : Int) : RO := ⟨0, 0, [], [], 0, 0, ⟨#[]⟩, c⟩
/-- A ring alone. -/
def RO.ring (cap first : Int) (recs : List ByteArray) (curs : List (Int × Int)) : RO := ⟨cap, first, recs, curs, 0, 0, ⟨#[]⟩, 0⟩
/-- A call has answered r, in memory of its own; nothing old has turned. -/
def Answers (w w' : World) (e : Ending) (r : RO) : Prop :=
  ∃ a q b p, e = .returned (ringOutV r.cap r.first a r.recs.length q b r.curs.length p r.k r.t r.d r.c) ∧ OwnRing w' w.heap.size a r.recs.length q b r.curs.length p (r.recs.map Value.string) (curCells r.curs) ∧ Below w.heap.size w w'
abbrev set8 (w : World) (b : Nat) (v0 v1 v2 v3 v4 v5 v6 v7 : Value) : World := (((((((w.setCell ⟨b, 0, none⟩ v0).setCell ⟨b, 1, none⟩ v1).setCell ⟨b, 2, none⟩ v2).setCell ⟨b, 3, none⟩ v3).setCell ⟨b, 4, none⟩ v4).setCell ⟨b, 5, none⟩ v5).setCell ⟨b, 6, none⟩ v6).setCell ⟨b, 7, none⟩ v7
theorem own_set8 {w : World} {base e size n : Nat} {v : Value} {xs : List Value} (h : w.ownsRow base e size v n xs) (b : Nat) (hb : b < base) (v0 v1 v2 v3 v4 v5 v6 v7 : Value) : (set8 w b v0 v1 v2 v3 v4 v5 v6 v7).ownsRow base e size v n xs :=
  ownsRow_setCell_below (ownsRow_setCell_below (ownsRow_setCell_below (ownsRow_setCell_below (ownsRow_setCell_below (ownsRow_setCell_below (ownsRow_setCell_below (ownsRow_setCell_below h (a := ⟨b, 0, none⟩) hb _) (a := ⟨b, 1, none⟩) hb _) (a := ⟨b, 2, none⟩) hb _) (a := ⟨b, 3, none⟩) hb _) (a := ⟨b, 4, none⟩) hb _) (a := ⟨b, 5, none⟩) hb _) (a := ⟨b, 6, none⟩) hb _) (a := ⟨b, 7, none⟩) hb _
theorem ans_ill {w w1 : World} (c : Int) (hB : Below w.heap.size w w1) (b : Nat) (hb : w.heap.size ≤ b) (v0 v1 v2 v3 v4 v5 v6 v7 : Value) : Answers w (set8 w1 b v0 v1 v2 v3 v4 v5 v6 v7) (.returned (ringIll c)) (RO.ill c) :=
  ⟨none, 0, none, 0, rfl, ⟨World.ownsRow_nil _ _ _ _, World.ownsRow_nil _ _ _ _⟩, below_set8 hB b hb _ _ _ _ _ _ _ _⟩
theorem ans_ill0 {w w1 : World} (c : Int) (hB : Below w.heap.size w w1) : Answers w w1 (.returned (ringIll c)) (RO.ill c) :=
  ⟨none, 0, none, 0, rfl, ⟨World.ownsRow_nil _ _ _ _, World.ownsRow_nil _ _ _ _⟩, hB⟩
theorem ans_ring {w w1 : World} {base : Nat} (r : RO) {a : Option Addr} {q : Nat} {c : Option Addr} {p : Nat} (ho : OwnRing w1 base a r.recs.length q c r.curs.length p (r.recs.map Value.string) (curCells r.curs)) (hB : Below w.heap.size w w1) (b : Nat) (hb : w.heap.size ≤ b) (hbb : b < base) (v0 v1 v2 v3 v4 v5 v6 v7 : Value) :
    Answers w (set8 w1 b v0 v1 v2 v3 v4 v5 v6 v7) (.returned (ringOutV r.cap r.first a r.recs.length q c r.curs.length p r.k r.t r.d r.c)) r :=
  ⟨a, q, c, p, rfl, ⟨(own_set8 ho.1 b hbb _ _ _ _ _ _ _ _).mono (by omega), (own_set8 ho.2 b hbb _ _ _ _ _ _ _ _).mono (by omega)⟩, below_set8 hB b hb _ _ _ _ _ _ _ _⟩
/-- What is handed in of a ring, fit to be cut. -/
structure RFit (w : World) (ra : Option Addr) (rl rc : Nat) (ca : Option Addr) (cl cc : Nat) (recs : List ByteArray) (curs : List (Int × Int)) : Prop where
  str : StrIn w ra rl rc recs
  cur : CurIn w ca cl cc curs
  sz : ∀ s ∈ recs, s.size ≤ 1048576
  rle : rl ≤ 1048576
  cle : cl ≤ 1048576
  rcm : rc ≤ maxLen
  ccm : cc ≤ maxLen
theorem StrIn.below {w w' : World} {a : Option Addr} {n c : Nat} {l : List ByteArray} (h : StrIn w a n c l) (hb : Below w.heap.size w w') : StrIn w' a n c l := ⟨strs_below h.strs hb, fun x e => Nat.lt_of_lt_of_le (h.lt x e) hb.size, h.nil, h.cap, h.off⟩
theorem CurIn.below {w w' : World} {a : Option Addr} {n c : Nat} {l : List (Int × Int)} (h : CurIn w a n c l) (hb : Below w.heap.size w w') : CurIn w' a n c l := ⟨curs_below h.curs hb, fun x e => Nat.lt_of_lt_of_le (h.lt x e) hb.size, h.nil, h.cap, h.off⟩
theorem RFit.below {w w' : World} {recs : List ByteArray} {curs : List (Int × Int)} (h : RFit w ra rl rc ca cl cc recs curs) (hb : Below w.heap.size w w') : RFit w' ra rl rc ca cl cc recs curs := ⟨h.str.below hb, h.cur.below hb, h.sz, h.rle, h.cle, h.rcm, h.ccm⟩
theorem RFit.rin {w : World} {recs : List ByteArray} {curs : List (Int × Int)} (h : RFit w ra rl rc ca cl cc recs curs) : RIn w ra rl rc ca cl cc recs curs := ⟨h.str.strs, h.cur.curs, h.str.lt, h.cur.lt, h.str.nil, h.cur.nil, h.sz, h.rle, h.cle⟩
end Go.Proofs.YtdepaeajfldfbaaGreatDoor
/- What a law that asks for a ring's answer keeps, from call to call. -/
namespace Go.Proofs.YtdepaeajfldfbaaGreatDoor
open Go.RowKit

theorem blk_lt {u : World} {i : Nat} {o : Obj} (h : u.heap[i]? = some o) : i < u.heap.size := (Array.getElem?_eq_some_iff.1 h).1
theorem blk {u v : World} {i : Nat} {o : Obj} (h : u.heap[i]? = some o) (hb : Below u.heap.size u v) : v.heap[i]? = some o := (hb.block i (blk_lt h)).trans h
theorem blk2 {u v : World} {i : Nat} {o : Obj} {r s : Option Nat} (h : u.heap[i]? = some o) (k : Grown2 u v r s) (hr : some i ≠ r) (hs : some i ≠ s) : v.heap[i]? = some o := (k.2.2.2.2 i (blk_lt h) hr hs).trans h
theorem below_new (w : World) (o : Obj) : Below w.heap.size w (w.alloc o) := (Below.refl _ _).alloc (Nat.le_refl _) _
/-- The argument's box, and the specification's answer. -/
structure KA (w u : World) (oA oB : Obj) (B : Nat) (a : Option Addr) (n q : Nat) (c : Option Addr) (m p : Nat) (xs ys : List Value) : Prop where
  ba : u.heap[w.heap.size]? = some oA
  blo : Below w.heap.size w u
  bb : u.heap[B]? = some oB
  own : OwnRing u w.heap.size a n q c m p xs ys
  l1 : ∀ j, (Value.slice a n q).ownBlock = some j → j < B
  l2 : ∀ j, (Value.slice c m p).ownBlock = some j → j < B
  lt : w.heap.size < B
theorem KA.mk0 {w w2 w3 : World} {oA oB : Obj} {a : Option Addr} {n q : Nat} {c : Option Addr} {m p : Nat} {xs ys : List Value} (ha : w3.heap[w.heap.size]? = some oA) (hb : Below w.heap.size w w3) (ho : OwnRing w3 w2.heap.size a n q c m p xs ys) (h2 : w.heap.size ≤ w2.heap.size) : KA w (w3.alloc oB) oA oB w3.heap.size a n q c m p xs ys :=
  ⟨blk ha (below_new _ _), below_tr hb (below_new _ _), heap_alloc_new _ _, OwnRing.below ⟨ho.1.mono h2, ho.2.mono h2⟩ (below_new _ _), fun j e => (ho.1.lt j e).2, fun j e => (ho.2.lt j e).2, blk_lt ha⟩
theorem KA.below {w u v : World} {oA oB : Obj} {B : Nat} {a : Option Addr} {n q : Nat} {c : Option Addr} {m p : Nat} {xs ys : List Value} (h : KA w u oA oB B a n q c m p xs ys) (hb : Below u.heap.size u v) : KA w v oA oB B a n q c m p xs ys :=
  ⟨blk h.ba hb, below_tr h.blo hb, blk h.bb hb, h.own.below hb, h.l1, h.l2, h.lt⟩
theorem KA.grown {w u v : World} {oA oB : Obj} {B : Nat} {a : Option Addr} {n q : Nat} {c : Option Addr} {m p : Nat} {xs ys : List Value} {r s : Option Nat} (h : KA w u oA oB B a n q c m p xs ys) (k : Grown2 u v r s) (hr : ∀ i, r = some i → B < i) (hs : ∀ i, s = some i → B < i) : KA w v oA oB B a n q c m p xs ys := by
  have hlt := h.lt
  have hn : ∀ i, i ≤ B → some i ≠ r ∧ some i ≠ s := fun i hi => ⟨fun e => by have := hr i e.symm; omega, fun e => by have := hs i e.symm; omega⟩
  refine ⟨blk2 h.ba k (hn _ (by omega)).1 (hn _ (by omega)).2, Grown2.below h.blo h.blo.size k (fun i e => by have := hr i e; omega) (fun i e => by have := hs i e; omega), blk2 h.bb k (hn _ (by omega)).1 (hn _ (by omega)).2, ⟨k.kept h.own.1 fun i e => hn i ?_, k.kept h.own.2 fun i e => hn i ?_⟩, h.l1, h.l2, h.lt⟩
  · have := h.l1 i e; omega
  · have := h.l2 i e; omega
/-- A block O of its own, and a ring whose lists lie between base and O. -/
structure KR (u : World) (base O : Nat) (o : Obj) (a : Option Addr) (n q : Nat) (c : Option Addr) (m p : Nat) (xs ys : List Value) : Prop where
  bo : u.heap[O]? = some o
  own : OwnRing u (base + 1) a n q c m p xs ys
  l1 : ∀ j, (Value.slice a n q).ownBlock = some j → j < O
  l2 : ∀ j, (Value.slice c m p).ownBlock = some j → j < O
  lt : base < O
theorem KR.mk0 {w3 w4 : World} {o3 o : Obj} {a : Option Addr} {n q : Nat} {c : Option Addr} {m p : Nat} {xs ys : List Value} (ho : OwnRing w4 (w3.alloc o3).heap.size a n q c m p xs ys) (hb : Below (w3.alloc o3).heap.size (w3.alloc o3) w4) : KR (w4.alloc o) w3.heap.size w4.heap.size o a n q c m p xs ys := by
  have hz := hb.size
  rw [World.size_alloc] at ho hz
  exact ⟨heap_alloc_new _ _, ho.below (below_new _ _), fun j e => (ho.1.lt j e).2, fun j e => (ho.2.lt j e).2, hz⟩
theorem KR.below {u v : World} {base O : Nat} {o : Obj} {a : Option Addr} {n q : Nat} {c : Option Addr} {m p : Nat} {xs ys : List Value} (h : KR u base O o a n q c m p xs ys) (hb : Below u.heap.size u v) : KR v base O o a n q c m p xs ys :=
  ⟨blk h.bo hb, h.own.below hb, h.l1, h.l2, h.lt⟩
theorem KR.grown {u v : World} {base O : Nat} {o : Obj} {a : Option Addr} {n q : Nat} {c : Option Addr} {m p : Nat} {xs ys : List Value} {r s : Option Nat} (h : KR u base O o a n q c m p xs ys) (k : Grown2 u v r s) (hr : ∀ i, r = some i → i < base) (hs : ∀ i, s = some i → i < base) : KR v base O o a n q c m p xs ys := by
  have hlt := h.lt
  have hn : ∀ i, base ≤ i → some i ≠ r ∧ some i ≠ s := fun i hi => ⟨fun e => by have := hr i e.symm; omega, fun e => by have := hs i e.symm; omega⟩
  refine ⟨blk2 h.bo k (hn _ (by omega)).1 (hn _ (by omega)).2, ⟨k.kept h.own.1 fun i e => hn i ?_, k.kept h.own.2 fun i e => hn i ?_⟩, h.l1, h.l2, h.lt⟩
  · have := (h.own.1.lt i e).1; omega
  · have := (h.own.2.lt i e).1; omega
theorem KR.mark {u v : World} {base O : Nat} {o : Obj} {a : Option Addr} {n q : Nat} {c : Option Addr} {m p : Nat} {xs ys xs' ys' : List Value} (h : KR u base O o a n q c m p xs ys) (ho : OwnRing v (base + 1) a n q c m p xs' ys') (k : Grown2 u v (Value.slice a n q).ownBlock (Value.slice c m p).ownBlock) : KR v base O o a n q c m p xs' ys' :=
  ⟨blk2 h.bo k (fun e => by have := h.l1 _ e.symm; omega) (fun e => by have := h.l2 _ e.symm; omega), ho, h.l1, h.l2, h.lt⟩
theorem KA.mark {w u v : World} {oA oB o : Obj} {B O : Nat} {a a' : Option Addr} {n q n' q' : Nat} {c c' : Option Addr} {m p m' p' base : Nat} {xs ys xs' ys' : List Value} (h : KA w u oA oB B a n q c m p xs ys) (hx : KR u base O o a' n' q' c' m' p' xs' ys') (hB : B ≤ base) (k : Grown2 u v (Value.slice a' n' q').ownBlock (Value.slice c' m' p').ownBlock) : KA w v oA oB B a n q c m p xs ys :=
  h.grown k (fun i e => by have := (hx.own.1.lt i e).1; omega) (fun i e => by have := (hx.own.2.lt i e).1; omega)
theorem KR.mark2 {u v : World} {base base' O O' : Nat} {o o' : Obj} {a a' : Option Addr} {n q n' q' : Nat} {c c' : Option Addr} {m p m' p' : Nat} {xs ys xs' ys' : List Value} (h : KR u base O o a n q c m p xs ys) (hx : KR u base' O' o' a' n' q' c' m' p' xs' ys') (hB : O' ≤ base) (k : Grown2 u v (Value.slice a' n' q').ownBlock (Value.slice c' m' p').ownBlock) : KR v base O o a n q c m p xs ys :=
  h.grown k (fun i e => by have := hx.l1 i e; omega) (fun i e => by have := hx.l2 i e; omega)
theorem own_rfit {w : World} {base a c rl cl : Nat} {recs : List ByteArray} {curs : List (Int × Int)} (h : OwnRing w base (some ⟨a, 0, none⟩) rl rl (some ⟨c, 0, none⟩) cl cl (recs.map Value.string) (curCells curs)) (hs : ∀ s ∈ recs, s.size ≤ 1048576) (hr : rl ≤ 1048576) (hc : cl ≤ 1048576) :
    RFit w (some ⟨a, 0, none⟩) rl rl (some ⟨c, 0, none⟩) cl cl recs curs := by
  obtain ⟨a1, q1, e1, h1⟩ := own_strIn h.1
  obtain ⟨a2, q2, e2, h2⟩ := own_curIn h.2
  simp only [Value.slice.injEq] at e1 e2
  obtain ⟨rfl, _, rfl⟩ := e1
  obtain ⟨rfl, _, rfl⟩ := e2
  exact ⟨h1, h2, hs, hr, hc, by unfold maxLen; omega, by unfold maxLen; omega⟩
end Go.Proofs.YtdepaeajfldfbaaGreatDoor
/- Follow of the program. -/
namespace Go.Proofs.YtdepaeajfldfbaaGreatDoor
open Go.RowKit
variable {cap first : Int} {ra ca : Option Addr} {rl rc cl cc : Nat}

def followR (cap first : Int) (recs : List ByteArray) (curs : List (Int × Int)) (g : Int) : RO :=
  if ringRightB cap first recs curs = false ∨ ¬ (1 ≤ g ∧ g ≤ 9) then RO.ill 1 else if findB g curs = true then RO.ill 7 else if curs.length = 4 then RO.ill 9
  else RO.ring cap first recs (curs.take (findK g curs) ++ (g, first) :: curs.drop (findK g curs))
theorem findK_le (g : Int) (l : List (Int × Int)) : findK g l ≤ l.length := by
  unfold findK
  exact List.findIdx_le_length
theorem keep_blocks {u u1 u2 : World} {b : Nat} (hb : Below u.heap.size u u1) (hg : u1.grownBy u2 (some b)) (h : u.heap.size ≤ b) : Below u.heap.size u u2 := hb.grown hg hb.size (fun k e => by cases e; exact h)
end Go.Proofs.YtdepaeajfldfbaaGreatDoor
/- A ring at work without what all have passed. -/
namespace Go.Proofs.YtdepaeajfldfbaaGreatDoor
open Go.RowKit
attribute [local go_sem ↓] Go.wp_at_zero Go.wp_at_succ
variable {cap first : Int} {ra ca : Option Addr} {rl rc cl cc : Nat}

/-- While what has passed is cut away: the answer's box, the copy's, the ring at work. -/
structure Passing (w wr : World) (b : Nat) (cap first : Int) (ra : Option Addr) (rl rc : Nat) (ca : Option Addr) (cl cc : Nat) (f' : Int) (ra' : Option Addr) (rl' rc' : Nat) (L : Int) : Prop where
  b0 : wr.heap[w.heap.size]? = some (ringObj 0 0 none 0 0 none 0 0)
  b1 : wr.heap[w.heap.size + 1]? = some (ringObj cap f' ra' rl' rc' ca cl cc)
  work : Work wr b cap first ra rl rc ca cl cc 1 0 L
  grown : w.grownBy wr (some b)
theorem passed_num (first : Int) (P : Nat) (hP : P ≤ 1048577) : IntKind.i64.wrap (first + (P : Int) - first) = (P : Int) := by
  rw [show first + (P : Int) - first = (P : Int) by omega]
  exact i64_wrap_in _ (by omega) (by omega)
theorem passing_start {w W0 w1 : World} {b : Nat} {L : Int} (hB : Below w.heap.size w W0) (hq : W0.heap[w.heap.size]? = some (ringObj 0 0 none 0 0 none 0 0) ∧ W0.heap[w.heap.size + 1]? = some (ringObj cap first ra rl rc ca cl cc)) (hW : Work w1 b cap first ra rl rc ca cl cc 1 0 L) (hg : W0.grownBy w1 (some b)) (hb : b < w.heap.size) (hz : w.heap.size + 2 ≤ W0.heap.size) : Passing w w1 b cap first ra rl rc ca cl cc first ra rl rc L :=
  ⟨(hg.block _ (by omega) (by simp; omega)).trans hq.1, (hg.block _ (by omega) (by simp; omega)).trans hq.2, hW, (grown_of_below hB _).trans hg⟩
theorem passing_cut {w wc : World} {b : Nat} {L : Int} (h : Passing w wc b cap first ra rl rc ca cl cc first ra rl rc L) (hb : b < w.heap.size) (a : Option Addr) (n c : Nat) : Passing w (wc.setCell ⟨w.heap.size + 1, 2, none⟩ (.slice a n c)).drew b cap first ra rl rc ca cl cc first a n c L :=
  ⟨(Below.heap_setCell wc ⟨w.heap.size + 1, 2, none⟩ (.slice a n c) w.heap.size (show w.heap.size ≠ w.heap.size + 1 by omega)).trans h.b0,
   heap_setCell_same wc (w.heap.size + 1) 2 _ _ (.slice a n c) h.b1,
   (Below.heap_setCell wc ⟨w.heap.size + 1, 2, none⟩ (.slice a n c) b (show b ≠ w.heap.size + 1 by omega)).trans h.work,
   (h.grown.andThen (grown_setc _ (w.heap.size + 1) 2 _) (fun j e => by cases e; exact .inl (by omega))).trans (grown_drewc _ _)⟩
end Go.Proofs.YtdepaeajfldfbaaGreatDoor
/- Leave of the program. -/
namespace Go.Proofs.YtdepaeajfldfbaaGreatDoor
open Go.RowKit
variable {cap first : Int} {ra ca : Option Addr} {rl rc cl cc : Nat}

/-- A ring without what its cursors have passed. -/
def trimR (cap first : Int) (recs : List ByteArray) (curs : List (Int × Int)) : RO := RO.ring cap (curLeast first curs) (recs.drop (curLeast first curs - first).toNat) curs
def leaveR (cap first : Int) (recs : List ByteArray) (curs : List (Int × Int)) (g : Int) : RO :=
  if ringRightB cap first recs curs = false then RO.ill 1 else if findB g curs = false then RO.ill 6
  else trimR cap first recs (curs.take (findK g curs) ++ curs.drop (findK g curs + 1))
theorem foldl_min_mem (l : List (Int × Int)) : ∀ n, l.foldl (fun n x => min n x.2) n = n ∨ ∃ c ∈ l, l.foldl (fun n x => min n x.2) n = c.2 := by
  induction l with
  | nil => intro n; exact .inl rfl
  | cons x r ih =>
    intro n
    simp only [List.foldl_cons]
    rcases ih (min n x.2) with h | ⟨c, hc, h⟩
    · rw [h]
      by_cases hx : n ≤ x.2
      · exact .inl (by omega)
      · exact .inr ⟨x, by simp, by omega⟩
    · exact .inr ⟨c, by simp [hc], h⟩
theorem curLeast_in (first fin : Int) (l : List (Int × Int)) (hf : first ≤ fin) (h : ∀ c ∈ l, first ≤ c.2 ∧ c.2 ≤ fin) : first ≤ curLeast first l ∧ curLeast first l ≤ fin := by
  cases l with
  | nil => exact ⟨Int.le_refl _, hf⟩
  | cons x r =>
    rcases foldl_min_mem (x :: r) x.2 with e | ⟨c, hc, e⟩
    · have := h x (by simp)
      show first ≤ (x :: r).foldl _ x.2 ∧ (x :: r).foldl _ x.2 ≤ fin
      rw [e]
      exact this
    · have := h c hc
      show first ≤ (x :: r).foldl _ x.2 ∧ (x :: r).foldl _ x.2 ≤ fin
      rw [e]
      exact this
theorem right_curs {recs : List ByteArray} {curs : List (Int × Int)} (h : ringRightB cap first recs curs = true) : (∀ c ∈ curs, first ≤ c.2 ∧ c.2 ≤ first + (recs.length : Int)) ∧ (∀ j, ∀ (hj : j + 1 < curs.length), curs[j].1 < curs[j + 1].1) := by
  rw [ringRight_eq, curRight_eq] at h
  simp only [Bool.and_eq_true, cursOk_iff] at h
  exact ⟨fun c hc => (h.2.1.1 c hc).2, h.2.1.2.2⟩
theorem cut_strIn {w : World} {a : Option Addr} {n c P : Nat} {l : List ByteArray} (h : StrIn w a n c l) (hP : P ≤ n) : StrIn w (cutAt a 1 P n) (n - P) (n - P) (l.drop P) := by
  have hl : l.length = n := h.strs.1
  refine ⟨?_, cutAt_lt h.lt, fun e => ?_, Nat.le_refl _, cutAt_off h.off⟩
  · have hc := cut_strs h.strs hP (Nat.le_refl n)
    rwa [List.take_of_length_le (by simp; omega)] at hc
  · have := (h.nil (cutAt_none e)).1
    omega
theorem find_lt {g : Int} {l : List (Int × Int)} (h : findB g l = true) : findK g l < l.length := by
  unfold findB at h
  rcases Nat.lt_or_ge (findK g l) l.length with h1 | h1
  · exact h1
  · rw [List.getElem?_eq_none h1] at h
    cases h
theorem ans_trim {w w8 : World} {base n m P : Nat} {recs : List ByteArray} {cs : List (Int × Int)} {a : Option Addr} {q : Nat} {c : Option Addr} {p : Nat} (hP : curLeast first cs = first + (P : Int)) (ho : OwnRing w8 base a n q c m p ((recs.drop P).map Value.string) (curCells cs)) (hB : Below w.heap.size w w8) {b : Nat} (hb : w.heap.size ≤ b) (hbb : b < base) (v0 v1 v2 v3 v4 v5 v6 v7 : Value) :
    Answers w (set8 w8 b v0 v1 v2 v3 v4 v5 v6 v7) (.returned (ringOutV cap (first + (P : Int)) a n q c m p 0 0 ⟨#[]⟩ 0)) (trimR cap first recs cs) := by
  have hn : (recs.drop P).length = n := by have := ho.1.1; simp at this ⊢; omega
  have hm : cs.length = m := by have := ho.2.1; rw [curCells_length] at this; omega
  have e : trimR cap first recs cs = RO.ring cap (first + (P : Int)) (recs.drop P) cs := by
    unfold trimR
    rw [hP, show (first + (P : Int) - first).toNat = P by omega]
  rw [e]
  subst hn hm
  exact ans_ring (RO.ring cap (first + (P : Int)) (recs.drop P) cs) ho hB b hb hbb _ _ _ _ _ _ _ _
end Go.Proofs.YtdepaeajfldfbaaGreatDoor
