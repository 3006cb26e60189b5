/- What is answered of a ring: the ring, a record, a code; and the small makers of rings. -/
import Derived.Test.YtopbfjdjlgecpaaGreatDoorRingCopy
import Derived.Test.YtopbfjdjlgecpaaGreatDoorRingAsk
import Derived.Test.YtopbfjdjlgecpaaGreatDoorRingWork5
namespace Go.Proofs.YtopbfjdjlgecpaaGreatDoor
open Go.RowKit
variable {cap first : Int} {ra ca : Option Addr} {rl rc cl cc : Nat}

/-- An answer. -/
structure RO where
  cap : Int
  first : Int
  recs : List ByteArray
  curs : List (Int × Int)
  k : Int
  t : Int
  d : ByteArray
  c : Int
/-- What is answered beside a code. -/
def RO.ill (c : Int) : RO := ⟨0, 0, [], [], 0, 0, ⟨#[]⟩, c⟩
/-- A ring alone. -/
def RO.ring (cap first : Int) (recs : List ByteArray) (curs : List (Int × Int)) : RO := ⟨cap, first, recs, curs, 0, 0, ⟨#[]⟩, 0⟩
/-- A call has answered r, in memory of its own; nothing old has turned. -/
def Answers (w w' : World) (e : Ending) (r : RO) : Prop :=
  ∃ a q b p, e = .returned (ringOutV r.cap r.first a r.recs.length q b r.curs.length p r.k r.t r.d r.c) ∧ OwnRing w' w.heap.size a r.recs.length q b r.curs.length p (r.recs.map Value.string) (curCells r.curs) ∧ Below w.heap.size w w'
abbrev outObj0 : Obj := .cells #[.int .i64 0, .int .i64 0, .slice none 0 0, .slice none 0 0, .int .i64 0, .int .i64 0, .string ⟨#[]⟩, .int .i64 0] 32 (0, 0)
abbrev set8 (w : World) (b : Nat) (v0 v1 v2 v3 v4 v5 v6 v7 : Value) : World := (((((((w.setCell ⟨b, 0, none⟩ v0).setCell ⟨b, 1, none⟩ v1).setCell ⟨b, 2, none⟩ v2).setCell ⟨b, 3, none⟩ v3).setCell ⟨b, 4, none⟩ v4).setCell ⟨b, 5, none⟩ v5).setCell ⟨b, 6, none⟩ v6).setCell ⟨b, 7, none⟩ v7
theorem own_set8 {w : World} {base e size n : Nat} {v : Value} {xs : List Value} (h : w.ownsRow base e size v n xs) (b : Nat) (hb : b < base) (v0 v1 v2 v3 v4 v5 v6 v7 : Value) : (set8 w b v0 v1 v2 v3 v4 v5 v6 v7).ownsRow base e size v n xs :=
  ownsRow_setCell_below (ownsRow_setCell_below (ownsRow_setCell_below (ownsRow_setCell_below (ownsRow_setCell_below (ownsRow_setCell_below (ownsRow_setCell_below (ownsRow_setCell_below h (a := ⟨b, 0, none⟩) hb _) (a := ⟨b, 1, none⟩) hb _) (a := ⟨b, 2, none⟩) hb _) (a := ⟨b, 3, none⟩) hb _) (a := ⟨b, 4, none⟩) hb _) (a := ⟨b, 5, none⟩) hb _) (a := ⟨b, 6, none⟩) hb _) (a := ⟨b, 7, none⟩) hb _
theorem ans_ill {w w1 : World} (c : Int) (hB : Below w.heap.size w w1) (b : Nat) (hb : w.heap.size ≤ b) (v0 v1 v2 v3 v4 v5 v6 v7 : Value) : Answers w (set8 w1 b v0 v1 v2 v3 v4 v5 v6 v7) (.returned (ringIll c)) (RO.ill c) :=
  ⟨none, 0, none, 0, rfl, ⟨World.ownsRow_nil _ _ _ _, World.ownsRow_nil _ _ _ _⟩, below_set8 hB b hb _ _ _ _ _ _ _ _⟩
theorem ans_ill0 {w w1 : World} (c : Int) (hB : Below w.heap.size w w1) : Answers w w1 (.returned (ringIll c)) (RO.ill c) :=
  ⟨none, 0, none, 0, rfl, ⟨World.ownsRow_nil _ _ _ _, World.ownsRow_nil _ _ _ _⟩, hB⟩
theorem ans_ring {w w1 : World} {base : Nat} (r : RO) {a : Option Addr} {q : Nat} {c : Option Addr} {p : Nat} (ho : OwnRing w1 base a r.recs.length q c r.curs.length p (r.recs.map Value.string) (curCells r.curs)) (hB : Below w.heap.size w w1) (b : Nat) (hb : w.heap.size ≤ b) (hbb : b < base) (v0 v1 v2 v3 v4 v5 v6 v7 : Value) :
    Answers w (set8 w1 b v0 v1 v2 v3 v4 v5 v6 v7) (.returned (ringOutV r.cap r.first a r.recs.length q c r.curs.length p r.k r.t r.d r.c)) r :=
  ⟨a, q, c, p, rfl, ⟨(own_set8 ho.1 b hbb _ _ _ _ _ _ _ _).mono (by omega), (own_set8 ho.2 b hbb _ _ _ _ _ _ _ _).mono (by omega)⟩, below_set8 hB b hb _ _ _ _ _ _ _ _⟩
/-- What is handed in of a ring, fit to be cut. -/
structure RFit (w : World) (ra : Option Addr) (rl rc : Nat) (ca : Option Addr) (cl cc : Nat) (recs : List ByteArray) (curs : List (Int × Int)) : Prop where
  str : StrIn w ra rl rc recs
  cur : CurIn w ca cl cc curs
  sz : ∀ s ∈ recs, s.size ≤ 1048576
  rle : rl ≤ 1048576
  cle : cl ≤ 1048576
  rcm : rc ≤ maxLen
  ccm : cc ≤ maxLen
theorem StrIn.below {w w' : World} {a : Option Addr} {n c : Nat} {l : List ByteArray} (h : StrIn w a n c l) (hb : Below w.heap.size w w') : StrIn w' a n c l := ⟨strs_below h.strs hb, fun x e => Nat.lt_of_lt_of_le (h.lt x e) hb.size, h.nil, h.cap, h.off⟩
theorem CurIn.below {w w' : World} {a : Option Addr} {n c : Nat} {l : List (Int × Int)} (h : CurIn w a n c l) (hb : Below w.heap.size w w') : CurIn w' a n c l := ⟨curs_below h.curs hb, fun x e => Nat.lt_of_lt_of_le (h.lt x e) hb.size, h.nil, h.cap, h.off⟩
theorem RFit.below {w w' : World} {recs : List ByteArray} {curs : List (Int × Int)} (h : RFit w ra rl rc ca cl cc recs curs) (hb : Below w.heap.size w w') : RFit w' ra rl rc ca cl cc recs curs := ⟨h.str.below hb, h.cur.below hb, h.sz, h.rle, h.cle, h.rcm, h.ccm⟩
theorem RFit.rin {w : World} {recs : List ByteArray} {curs : List (Int × Int)} (h : RFit w ra rl rc ca cl cc recs curs) : RIn w ra rl rc ca cl cc recs curs := ⟨h.str.strs, h.cur.curs, h.str.lt, h.cur.lt, h.str.nil, h.cur.nil, h.sz, h.rle, h.cle⟩
set_option maxHeartbeats 1000000 in
theorem impl_withCursors (b : Nat) (d st l : Int) (a : Option Addr) (n c : Nat) (w : World) (hw : Work w b cap first ra rl rc ca cl cc d st l) :
    Calls Tryz.prog 54 #[.pointer (some ⟨b, 0, none⟩), .slice a n c] w fun e w' => e = .returned (ringV cap first ra rl rc a n c) ∧ Below w.heap.size w w' := by
  obtain ⟨c0, c1, c2, c3, c4, c5, c6, c7⟩ := work_cells hw
  have hlt := hw.lt
  go_enter Tryz.func54, Tryz.ntmps54
  go_wp2
  exact bodyPost_ret (v := ringV cap first ra rl rc a n c) (by simp [results, Tryz.results54, go_sem]) rfl ⟨rfl, ((Below.refl _ _).alloc (Nat.le_refl _) _).alloc (by simp) _⟩
end Go.Proofs.YtopbfjdjlgecpaaGreatDoor
