import Derived.Test.YtbbaghlmialaoaaGreatDoorLawRing0
import Derived.Laws.AppendOwn
import Derived.Laws.OwnMore
import Derived.Maps.AppendAt
import Derived.Maps.Range
import Derived.Maps.RangeWalk
import Derived.OwnWalk
/- The laws' marks on rings. -/
namespace Go.Proofs.YtbbaghlmialaoaaGreatDoor
open Go.RowKit

theorem below_grown {w w' : World} (h : Below w.heap.size w w') : w.grownBy w' none := ⟨h.os, h.tape, h.output, h.size, fun k hk _ => h.block k hk⟩
def markGo : Nat → Nat → List UInt8 → List UInt8
  | 0, _, out => out
  | f + 1, k, out => if k = 0 then out else markGo f (k / 10) (UInt8.ofNat (48 + k % 10) :: out)
/-- The text with which place k is marked. -/
def markB (k : Nat) : ByteArray := ⟨(109 :: markGo 32 k []).toArray⟩
theorem markGo_zero (f : Nat) (out : List UInt8) : markGo f 0 out = out := by cases f <;> simp [markGo]
theorem markGo_succ (f k : Nat) (out : List UInt8) (h : 0 < k) : markGo (f + 1) k out = markGo f (k / 10) (UInt8.ofNat (48 + k % 10) :: out) := by
  have : ¬ k = 0 := by omega
  simp [markGo, this]
theorem mark_byte (k : Nat) : ((UInt8.ofNat (48 + k % 10)).toNat : Int) = 48 + (k : Int) % 10 := by
  have h : k % 10 < 10 := Nat.mod_lt _ (by omega)
  have e : (UInt8.ofNat (48 + k % 10)).toNat = 48 + k % 10 := by
    simp; omega
  rw [e]
  omega
/-- 'string([]byte{x})', the byte just laid. -/
theorem conv_one {P : Program} (w : World) (src dst e : TypeId) (b : UInt8) (x : Int) (hx : x = (b.toNat : Int)) (hs : P.underlying src = some (.slice e)) (he : P.underlying e = some (.int .u8)) (hd : P.underlying dst = some .string) :
    (convert src dst (.slice (some ⟨w.heap.size, 0, none⟩) 1 1)).run P (w.alloc (.cells #[.int .u8 x] e)) = .ok (.string ⟨#[b]⟩) (w.alloc (.cells #[.int .u8 x] e)) := by
  subst hx
  refine run_convert_bytes_back _ src dst e ⟨w.heap.size, 0, none⟩ 1 [b] hs he hd fun j hj => ?_
  have : j = 0 := by simp at hj; omega
  subst this
  exact World.cell?_alloc_new _ _ _ _
/-- The first i of a row of texts, marked from K on. -/
def mStr (K : Nat) (xs : List Value) (i : Nat) : List Value := xs.mapIdx fun j x => if j < i then .string (markB (K + j)) else x
/-- The cells of the first i cursors, marked from K on. -/
def mCur (K : Nat) (xs : List Value) (i : Nat) : List Value := xs.mapIdx fun j x => if j < i then .int .i64 ((K + j : Nat) : Int) else x
theorem mapIdx_same (xs : List Value) : xs.mapIdx (fun _ x => x) = xs := by
  apply List.ext_getElem?
  intro j
  simp
theorem mStr_zero (K : Nat) (xs : List Value) : mStr K xs 0 = xs := by simp [mStr, mapIdx_same]
theorem mCur_zero (K : Nat) (xs : List Value) : mCur K xs 0 = xs := by simp [mCur, mapIdx_same]
theorem mStr_set (K : Nat) (xs : List Value) (i : Nat) (h : i < xs.length) : (mStr K xs i).set i (.string (markB (K + i))) = mStr K xs (i + 1) := by
  apply List.ext_getElem?
  intro j
  by_cases hj : i = j
  · subst hj
    simp [mStr, h]
  · rw [List.getElem?_set_ne hj]
    simp only [mStr, List.getElem?_mapIdx]
    cases xs[j]? with
    | none => rfl
    | some x =>
      by_cases h1 : j < i
      · have : j < i + 1 := by omega
        simp [h1, this]
      · have : ¬ j < i + 1 := by omega
        simp [h1, this]
theorem mCur_set (K : Nat) (xs : List Value) (i : Nat) (h : i < xs.length) : (mCur K xs i).set i (.int .i64 ((K + i : Nat) : Int)) = mCur K xs (i + 1) := by
  apply List.ext_getElem?
  intro j
  by_cases hj : i = j
  · subst hj
    simp [mCur, h]
  · rw [List.getElem?_set_ne hj]
    simp only [mCur, List.getElem?_mapIdx]
    cases xs[j]? with
    | none => rfl
    | some x =>
      by_cases h1 : j < i
      · have : j < i + 1 := by omega
        simp [h1, this]
      · have : ¬ j < i + 1 := by omega
        simp [h1, this]
theorem mStr_length (K : Nat) (xs : List Value) (i : Nat) : (mStr K xs i).length = xs.length := by simp [mStr]
theorem mCur_length (K : Nat) (xs : List Value) (i : Nat) : (mCur K xs i).length = xs.length := by simp [mCur]
theorem mStr_at (K : Nat) (xs : List Value) (i : Nat) (h : i < xs.length) : (mStr K xs xs.length)[i]? = some (.string (markB (K + i))) := by simp [mStr, h]
theorem mCur_at (K : Nat) (xs : List Value) (i : Nat) (h : i < xs.length) : (mCur K xs xs.length)[i]? = some (.int .i64 ((K + i : Nat) : Int)) := by simp [mCur, h]
theorem own_form {w : World} {base e size n : Nat} {a : Option Addr} {c : Nat} {xs : List Value} (h : w.ownsRow base e size (.slice a n c) n xs) (hn : 0 < n) : ∃ g, a = some ⟨g, 0, none⟩ := by
  rcases h.2 with ⟨e1, h0⟩ | ⟨g, cap, cur, e1, _⟩
  · omega
  · simp only [Value.slice.injEq] at e1
    exact ⟨g, e1.1⟩
end Go.Proofs.YtbbaghlmialaoaaGreatDoor
/- Rings that own their memory: marked, and held. -/
namespace Go.Proofs.YtbbaghlmialaoaaGreatDoor
open Go.RowKit

theorem grown_cell {w w' : World} {row : Option Nat} (hg : w.grownBy w' row) {b : Nat} (hlt : b < w.heap.size) (hne : some b ≠ row) (o : Nat) : w'.cell? ⟨b, o, none⟩ = w.cell? ⟨b, o, none⟩ := World.cell?_of_block (hg.block b hlt hne)
/-- A ring's two lists lie in blocks of their own, from base on. -/
def OwnRing (w : World) (base : Nat) (ra : Option Addr) (rl rc : Nat) (ca : Option Addr) (cl cc : Nat) (xs ys : List Value) : Prop :=
  w.ownsRow base 9 1 (.slice ra rl rc) rl xs ∧ w.ownsRow base 47 2 (.slice ca cl cc) cl ys
/-- Nothing old has turned but for blocks r and s. -/
def Grown2 (w w' : World) (r s : Option Nat) : Prop :=
  w'.os = w.os ∧ w'.tape = w.tape ∧ w'.output = w.output ∧ w.heap.size ≤ w'.heap.size ∧ ∀ k, k < w.heap.size → some k ≠ r → some k ≠ s → w'.heap[k]? = w.heap[k]?
theorem Grown2.trans {u v w : World} {r s : Option Nat} (h : Grown2 u v r s) (k : Grown2 v w r s) : Grown2 u w r s :=
  ⟨k.1.trans h.1, k.2.1.trans h.2.1, k.2.2.1.trans h.2.2.1, Nat.le_trans h.2.2.2.1 k.2.2.2.1, fun i hi h1 h2 => (k.2.2.2.2 i (Nat.lt_of_lt_of_le hi h.2.2.2.1) h1 h2).trans (h.2.2.2.2 i hi h1 h2)⟩
theorem Grown2.left {w w' : World} {r : Option Nat} (h : w.grownBy w' r) (s : Option Nat) : Grown2 w w' r s := ⟨h.os, h.tape, h.output, h.size, fun k hk h1 _ => h.block k hk h1⟩
theorem Grown2.right {w w' : World} {s : Option Nat} (h : w.grownBy w' s) (r : Option Nat) : Grown2 w w' r s := ⟨h.os, h.tape, h.output, h.size, fun k hk _ h1 => h.block k hk h1⟩
theorem Grown2.ofBelow {w w' : World} (h : Below w.heap.size w w') (r s : Option Nat) : Grown2 w w' r s := ⟨h.os, h.tape, h.output, h.size, fun k hk _ _ => h.block k hk⟩
theorem Grown2.below {w u v : World} {N : Nat} {r s : Option Nat} (h : Below N w u) (hN : N ≤ u.heap.size) (k : Grown2 u v r s) (hr : ∀ i, r = some i → N ≤ i) (hs : ∀ i, s = some i → N ≤ i) : Below N w v :=
  ⟨k.1.trans h.os, k.2.1.trans h.tape, k.2.2.1.trans h.output, Nat.le_trans h.size k.2.2.2.1, fun i hi => (k.2.2.2.2 i (Nat.lt_of_lt_of_le hi hN) (fun e => by have := hr i e.symm; omega) (fun e => by have := hs i e.symm; omega)).trans (h.block i hi)⟩
theorem Grown2.kept {w w' : World} {r s : Option Nat} (k : Grown2 w w' r s) {base e size n : Nat} {v : Value} {xs : List Value} (h : w.ownsRow base e size v n xs) (h1 : ∀ i, v.ownBlock = some i → some i ≠ r ∧ some i ≠ s) : w'.ownsRow base e size v n xs := by
  refine ⟨h.1, ?_⟩
  rcases h.2 with hn | ⟨g, cap, cur, rfl, hb, hg, rest⟩
  · exact .inl hn
  · have hlt : g < w.heap.size := (Array.getElem?_eq_some_iff.1 hg).1
    have hne := h1 g rfl
    exact .inr ⟨g, cap, cur, rfl, hb, (k.2.2.2.2 g hlt hne.1 hne.2).trans hg, rest⟩
theorem Grown2.cell {w w' : World} {r s : Option Nat} (k : Grown2 w w' r s) {b : Nat} (hb : b < w.heap.size) (h1 : some b ≠ r) (h2 : some b ≠ s) (o : Nat) : w'.cell? ⟨b, o, none⟩ = w.cell? ⟨b, o, none⟩ := by
  simp [World.cell?, k.2.2.2.2 b hb h1 h2]
theorem own_apart {w : World} {base base' n n' : Nat} {v v' : Value} {xs ys : List Value} (h : w.ownsRow base 9 1 v n xs) (h' : w.ownsRow base' 47 2 v' n' ys) : v.ownBlock = none ∨ v.ownBlock ≠ v'.ownBlock := by
  rcases h.2 with ⟨rfl, _⟩ | ⟨g, cap, cur, rfl, hb, hg, rest⟩
  · exact .inl rfl
  · rcases h'.2 with ⟨rfl, _⟩ | ⟨g', cap', cur', rfl, hb', hg', rest'⟩
    · exact .inr (by simp [Value.ownBlock])
    · refine .inr fun e => ?_
      simp [Value.ownBlock] at e
      subst e
      rw [hg] at hg'
      simp at hg'
theorem own_apart' {w : World} {base base' n n' : Nat} {v v' : Value} {xs ys : List Value} (h : w.ownsRow base 9 1 v n xs) (h' : w.ownsRow base' 47 2 v' n' ys) : v'.ownBlock = none ∨ v'.ownBlock ≠ v.ownBlock := by
  rcases own_apart h h' with h1 | h1
  · cases h2 : v'.ownBlock with
    | none => exact .inl rfl
    | some i => exact .inr (by rw [h1]; simp)
  · exact .inr fun e => h1 e.symm
theorem own_strs {w : World} {base n c : Nat} {a : Option Addr} {l : List ByteArray} (h : w.ownsRow base 9 1 (.slice a n c) n (l.map Value.string)) : Strs w a n l := by
  have hl : l.length = n := by simpa using h.1
  refine ⟨hl, fun i hi => ?_⟩
  obtain ⟨g, rfl⟩ := own_form h (by omega)
  refine ⟨g, 0, rfl, ?_⟩
  rw [Nat.zero_add, h.cellAt i (by omega)]
  simp [hi]
/-- The cells of a list of cursors. -/
def curCells : List (Int × Int) → List Value
  | [] => []
  | c :: r => .int .i64 c.1 :: .int .i64 c.2 :: curCells r
theorem curCells_length (l : List (Int × Int)) : (curCells l).length = l.length * 2 := by
  induction l with
  | nil => rfl
  | cons c r ih => simp [curCells, ih]; omega
theorem curCells_at (l : List (Int × Int)) (i : Nat) (h : i < l.length) : (curCells l)[i * 2]? = some (.int .i64 l[i].1) ∧ (curCells l)[i * 2 + 1]? = some (.int .i64 l[i].2) := by
  induction l generalizing i with
  | nil => simp at h
  | cons c r ih =>
    cases i with
    | zero => simp [curCells]
    | succ j =>
      have := ih j (by simpa using h)
      have e : (j + 1) * 2 = j * 2 + 1 + 1 := by omega
      simp only [curCells, e, List.getElem?_cons_succ, List.getElem_cons_succ]
      exact this
theorem curCells_append (l r : List (Int × Int)) : curCells (l ++ r) = curCells l ++ curCells r := by
  induction l with
  | nil => rfl
  | cons c t ih => simp [curCells, ih]
theorem own_curs {w : World} {base n c : Nat} {a : Option Addr} {l : List (Int × Int)} (h : w.ownsRow base 47 2 (.slice a n c) n (curCells l)) : Curs w a n l := by
  have hl : l.length = n := by have := h.1; rw [curCells_length] at this; omega
  refine ⟨hl, fun i hi => ?_⟩
  obtain ⟨g, rfl⟩ := own_form h (by omega)
  have hc := curCells_at l i hi
  refine ⟨g, 0, rfl, ?_, ?_⟩
  · rw [Nat.zero_add, h.cellAt (i * 2) (by omega)]; exact hc.1
  · rw [Nat.zero_add, h.cellAt (i * 2 + 1) (by omega)]; exact hc.2
end Go.Proofs.YtbbaghlmialaoaaGreatDoor
