/- Rings that own their memory: marked, and held. -/
import Derived.Test.YtghmkheebhhplaaGreatDoorLawRing1
namespace Go.Proofs.YtghmkheebhhplaaGreatDoor
open Go.RowKit

theorem grown_cell {w w' : World} {row : Option Nat} (hg : w.grownBy w' row) {b : Nat} (hlt : b < w.heap.size) (hne : some b ≠ row) (o : Nat) : w'.cell? ⟨b, o, none⟩ = w.cell? ⟨b, o, none⟩ := World.cell?_of_block (hg.block b hlt hne)
/-- A ring's two lists lie in blocks of their own, from base on. -/
def OwnRing (w : World) (base : Nat) (ra : Option Addr) (rl rc : Nat) (ca : Option Addr) (cl cc : Nat) (xs ys : List Value) : Prop :=
  w.ownsRow base 9 1 (.slice ra rl rc) rl xs ∧ w.ownsRow base 138 2 (.slice ca cl cc) cl ys
/-- Nothing old has turned but for blocks r and s. -/
def Grown2 (w w' : World) (r s : Option Nat) : Prop :=
  w'.os = w.os ∧ w'.tape = w.tape ∧ w'.output = w.output ∧ w.heap.size ≤ w'.heap.size ∧ ∀ k, k < w.heap.size → some k ≠ r → some k ≠ s → w'.heap[k]? = w.heap[k]?
theorem Grown2.trans {u v w : World} {r s : Option Nat} (h : Grown2 u v r s) (k : Grown2 v w r s) : Grown2 u w r s :=
  ⟨k.1.trans h.1, k.2.1.trans h.2.1, k.2.2.1.trans h.2.2.1, Nat.le_trans h.2.2.2.1 k.2.2.2.1, fun i hi h1 h2 => (k.2.2.2.2 i (Nat.lt_of_lt_of_le hi h.2.2.2.1) h1 h2).trans (h.2.2.2.2 i hi h1 h2)⟩
theorem Grown2.left {w w' : World} {r : Option Nat} (h : w.grownBy w' r) (s : Option Nat) : Grown2 w w' r s := ⟨h.os, h.tape, h.output, h.size, fun k hk h1 _ => h.block k hk h1⟩
theorem Grown2.right {w w' : World} {s : Option Nat} (h : w.grownBy w' s) (r : Option Nat) : Grown2 w w' r s := ⟨h.os, h.tape, h.output, h.size, fun k hk _ h1 => h.block k hk h1⟩
theorem Grown2.ofBelow {w w' : World} (h : Below w.heap.size w w') (r s : Option Nat) : Grown2 w w' r s := ⟨h.os, h.tape, h.output, h.size, fun k hk _ _ => h.block k hk⟩
theorem Grown2.below {w u v : World} {N : Nat} {r s : Option Nat} (h : Below N w u) (hN : N ≤ u.heap.size) (k : Grown2 u v r s) (hr : ∀ i, r = some i → N ≤ i) (hs : ∀ i, s = some i → N ≤ i) : Below N w v :=
  ⟨k.1.trans h.os, k.2.1.trans h.tape, k.2.2.1.trans h.output, Nat.le_trans h.size k.2.2.2.1, fun i hi => (k.2.2.2.2 i (Nat.lt_of_lt_of_le hi hN) (fun e => by have := hr i e.symm; omega) (fun e => by have := hs i e.symm; omega)).trans (h.block i hi)⟩
theorem Grown2.kept {w w' : World} {r s : Option Nat} (k : Grown2 w w' r s) {base e size n : Nat} {v : Value} {xs : List Value} (h : w.ownsRow base e size v n xs) (h1 : ∀ i, v.ownBlock = some i → some i ≠ r ∧ some i ≠ s) : w'.ownsRow base e size v n xs := by
  refine ⟨h.1, ?_⟩
  rcases h.2 with hn | ⟨g, cap, cur, rfl, hb, hg, rest⟩
  · exact .inl hn
  · have hlt : g < w.heap.size := (Array.getElem?_eq_some_iff.1 hg).1
    have hne := h1 g rfl
    exact .inr ⟨g, cap, cur, rfl, hb, (k.2.2.2.2 g hlt hne.1 hne.2).trans hg, rest⟩
theorem Grown2.cell {w w' : World} {r s : Option Nat} (k : Grown2 w w' r s) {b : Nat} (hb : b < w.heap.size) (h1 : some b ≠ r) (h2 : some b ≠ s) (o : Nat) : w'.cell? ⟨b, o, none⟩ = w.cell? ⟨b, o, none⟩ := by
  simp [World.cell?, k.2.2.2.2 b hb h1 h2]
theorem own_apart {w : World} {base base' n n' : Nat} {v v' : Value} {xs ys : List Value} (h : w.ownsRow base 9 1 v n xs) (h' : w.ownsRow base' 138 2 v' n' ys) : v.ownBlock = none ∨ v.ownBlock ≠ v'.ownBlock := by
  rcases h.2 with ⟨rfl, _⟩ | ⟨g, cap, cur, rfl, hb, hg, rest⟩
  · exact .inl rfl
  · rcases h'.2 with ⟨rfl, _⟩ | ⟨g', cap', cur', rfl, hb', hg', rest'⟩
    · exact .inr (by simp [Value.ownBlock])
    · refine .inr fun e => ?_
      simp [Value.ownBlock] at e
      subst e
      rw [hg] at hg'
      simp at hg'
theorem own_apart' {w : World} {base base' n n' : Nat} {v v' : Value} {xs ys : List Value} (h : w.ownsRow base 9 1 v n xs) (h' : w.ownsRow base' 138 2 v' n' ys) : v'.ownBlock = none ∨ v'.ownBlock ≠ v.ownBlock := by
  rcases own_apart h h' with h1 | h1
  · cases h2 : v'.ownBlock with
    | none => exact .inl rfl
    | some i => exact .inr (by rw [h1]; simp)
  · exact .inr fun e => h1 e.symm
theorem own_strs {w : World} {base n c : Nat} {a : Option Addr} {l : List ByteArray} (h : w.ownsRow base 9 1 (.slice a n c) n (l.map Value.string)) : Strs w a n l := by
  have hl : l.length = n := by simpa using h.1
  refine ⟨hl, fun i hi => ?_⟩
  obtain ⟨g, rfl⟩ := own_form h (by omega)
  refine ⟨g, 0, rfl, ?_⟩
  rw [Nat.zero_add, h.cellAt i (by omega)]
  simp [hi]
/-- The cells of a list of cursors. -/
def curCells : List (Int × Int) → List Value
  | [] => []
  | c :: r => .int .i64 c.1 :: .int .i64 c.2 :: curCells r
theorem curCells_length (l : List (Int × Int)) : (curCells l).length = l.length * 2 := by
  induction l with
  | nil => rfl
  | cons c r ih => simp [curCells, ih]; omega
theorem curCells_at (l : List (Int × Int)) (i : Nat) (h : i < l.length) : (curCells l)[i * 2]? = some (.int .i64 l[i].1) ∧ (curCells l)[i * 2 + 1]? = some (.int .i64 l[i].2) := by
  induction l generalizing i with
  | nil => simp at h
  | cons c r ih =>
    cases i with
    | zero => simp [curCells]
    | succ j =>
      have := ih j (by simpa using h)
      have e : (j + 1) * 2 = j * 2 + 1 + 1 := by omega
      simp only [curCells, e, List.getElem?_cons_succ, List.getElem_cons_succ]
      exact this
theorem curCells_append (l r : List (Int × Int)) : curCells (l ++ r) = curCells l ++ curCells r := by
  induction l with
  | nil => rfl
  | cons c t ih => simp [curCells, ih]
theorem own_curs {w : World} {base n c : Nat} {a : Option Addr} {l : List (Int × Int)} (h : w.ownsRow base 138 2 (.slice a n c) n (curCells l)) : Curs w a n l := by
  have hl : l.length = n := by have := h.1; rw [curCells_length] at this; omega
  refine ⟨hl, fun i hi => ?_⟩
  obtain ⟨g, rfl⟩ := own_form h (by omega)
  have hc := curCells_at l i hi
  refine ⟨g, 0, rfl, ?_, ?_⟩
  · rw [Nat.zero_add, h.cellAt (i * 2) (by omega)]; exact hc.1
  · rw [Nat.zero_add, h.cellAt (i * 2 + 1) (by omega)]; exact hc.2
end Go.Proofs.YtghmkheebhhplaaGreatDoor
