/- FabricNew, of the program and of the specification. -/
import Derived.Test.YtopbfjdjlgecpaaRingNew
import Derived.Test.YtopbfjdjlgecpaaAppendMore
import Derived.Test.YtopbfjdjlgecpaaLawRing2
import Derived.RegionTactic
import Derived.LoopTactic
import Derived.BigRegion
import Derived.Deep.QuietTactic
import Derived.BigQuiet
import Derived.Deep.RegionWith
import Derived.Deep.RegionLaw
import Derived.Outline
import Derived.Deep.Onto
import Derived.Laws.Rows
namespace Go.Proofs.Ytopbfjdjlgecpaa
open Go.RowKit

abbrev fabOutV (ra : Option Addr) (rl rc : Nat) (ea : Option Addr) (el ec : Nat) (ta : Option Addr) (tl tc : Nat) (now n c : Int) : Value :=
  .agg #[.slice ra rl rc, .slice ea el ec, .slice ta tl tc, .int .i64 now, .int .i64 n, .int .i64 c]
abbrev fabOutObj (ra : Option Addr) (rl rc : Nat) (ea : Option Addr) (el ec : Nat) (ta : Option Addr) (tl tc : Nat) (now n c : Int) : Obj :=
  .cells #[.slice ra rl rc, .slice ea el ec, .slice ta tl tc, .int .i64 now, .int .i64 n, .int .i64 c] 28 (0, 0)
abbrev fabObj (ra : Option Addr) (rl rc : Nat) (ea : Option Addr) (el ec : Nat) (ta : Option Addr) (tl tc : Nat) (now : Int) : Obj :=
  .cells #[.slice ra rl rc, .slice ea el ec, .slice ta tl tc, .int .i64 now] 26 (0, 0)
abbrev fabIll (c : Int) : Value := fabOutV none 0 0 none 0 0 none 0 0 0 0 c
abbrev nilRing (most : Int) : List Value := [.int .i64 most, .int .i64 0, .slice none 0 0, .slice none 0 0]
/-- The cells of k new rings. -/
def newCells (most : Int) (k : Nat) : List Value := (List.replicate k (nilRing most)).flatten
theorem newCells_succ (most : Int) (k : Nat) : newCells most (k + 1) = newCells most k ++ nilRing most := by
  unfold newCells
  rw [List.replicate_succ', List.flatten_append]
  simp
theorem newCells_length (most : Int) (k : Nat) : (newCells most k).length = k * 4 := by
  induction k with
  | zero => rfl
  | succ k ih => rw [newCells_succ, List.length_append, ih]; simp; omega
theorem newCells_at (most : Int) (k i j : Nat) (hi : i < k) (hj : j < 4) : (newCells most k)[i * 4 + j]? = (nilRing most)[j]? := by
  induction k with
  | zero => omega
  | succ k ih =>
    rw [newCells_succ]
    by_cases h : i < k
    · rw [List.getElem?_append_left (by rw [newCells_length]; omega)]
      exact ih h
    · obtain rfl : i = k := by omega
      rw [List.getElem?_append_right (by rw [newCells_length]; omega), newCells_length]
      congr 1
      omega
/-- May it be made? -/
def fabOk (rings most : Int) : Bool := decide (1 ≤ rings ∧ rings ≤ 4) && capB most
/-- A fabric that is being made. -/
structure FW (w wr : World) (rb eb fb : Nat) (most : Int) (a : Option Addr) (k q : Nat) : Prop where
  b0 : wr.heap[w.heap.size]? = some (fabOutObj none 0 0 none 0 0 none 0 0 0 0 0)
  b1 : wr.heap[rb]? = some (.cells #[.int .i64 most, .int .i64 0, .slice none 0 0, .slice none 0 0, .int .i64 0, .int .i64 0, .string ⟨#[]⟩, .int .i64 0] 40 (0, 0))
  b2 : wr.heap[eb]? = some (.cells #[.int .i64 0, .int .i64 0, .int .i64 0, .int .i64 0] 2 (0, 0))
  b3 : wr.heap[fb]? = some (fabObj a k q (some ⟨eb, 0, none⟩) 4 4 none 0 0 0)
  own : wr.ownsRow (fb + 1) 36 4 (.slice a k q) k (newCells most k)
  blo : Below w.heap.size w wr
  l1 : w.heap.size < rb
  l2 : rb < eb
  l3 : eb < fb
theorem fblk_lt {u : World} {i : Nat} {o : Obj} (h : u.heap[i]? = some o) : i < u.heap.size := (Array.getElem?_eq_some_iff.1 h).1
theorem fblk {u v : World} {i : Nat} {o : Obj} (h : u.heap[i]? = some o) (hb : Below u.heap.size u v) : v.heap[i]? = some o := (hb.block i (fblk_lt h)).trans h
theorem fcell {w : World} {g : Nat} {C : Array Value} {t : TypeId} (h : w.heap[g]? = some (.cells C t (0, 0))) (o : Nat) : w.cell? ⟨g, o, none⟩ = C[o]? := by
  simp [World.cell?, h]
theorem ffree {w : World} {g : Nat} {C : Array Value} {t : TypeId} (h : w.heap[g]? = some (.cells C t (0, 0))) (o : Nat) : w.frozen? ⟨g, o, none⟩ = false := by
  simp [World.frozen?, h]
theorem fown_below {w w' : World} {base e size n : Nat} {v : Value} {xs : List Value} (h : w.ownsRow base e size v n xs) (hb : Below w.heap.size w w') : w'.ownsRow base e size v n xs := by
  refine ⟨h.1, ?_⟩
  rcases h.2 with hn | ⟨g, cap, cur, rfl, hb', hg, rest⟩
  · exact .inl hn
  · exact .inr ⟨g, cap, cur, rfl, hb', fblk hg hb, rest⟩
theorem FW.below {w u v : World} {rb eb fb : Nat} {most : Int} {a : Option Addr} {k q : Nat} (h : FW w u rb eb fb most a k q) (hb : Below u.heap.size u v) : FW w v rb eb fb most a k q :=
  ⟨fblk h.b0 hb, fblk h.b1 hb, fblk h.b2 hb, fblk h.b3 hb, fown_below h.own hb, below_tr h.blo hb, h.l1, h.l2, h.l3⟩
/-- A ring more. -/
theorem FW.app {w u v : World} {rb eb fb : Nat} {most : Int} {a a1 : Option Addr} {k q c1 : Nat} {o : Obj} (h : FW w u rb eb fb most a k q) (ho : v.ownsRow (fb + 1) 36 4 (.slice a1 (k + 1) c1) (k + 1) (newCells most k ++ nilRing most)) (hg : (u.alloc o).grownBy v (Value.slice a k q).ownBlock) :
    (∀ j, v.cell? ⟨fb, j, none⟩ = #[.slice a k q, .slice (some ⟨eb, 0, none⟩) 4 4, .slice none 0 0, .int .i64 0][j]?) ∧ (∀ j, v.frozen? ⟨fb, j, none⟩ = false) ∧ FW w (v.setCell ⟨fb, 0, none⟩ (.slice a1 (k + 1) c1)) rb eb fb most a1 (k + 1) c1 := by
  have l1 := h.l1
  have l2 := h.l2
  have l3 := h.l3
  have hlt := fblk_lt h.b3
  have hz : (u.alloc o).heap.size = u.heap.size + 1 := World.size_alloc _ _
  have keep : ∀ i ob, u.heap[i]? = some ob → i ≤ fb → v.heap[i]? = some ob := fun i ob hi hle =>
    (hg.block i (by omega) (fun e => by have := (h.own.lt i e.symm).1; omega)).trans ((Below.heap_alloc _ _ _ (by omega)).trans hi)
  have k3 := keep fb _ h.b3 (Nat.le_refl _)
  have hs := heap_setCell_same v fb 0 _ _ (.slice a1 (k + 1) c1) k3
  have hb : Below w.heap.size w v := by
    refine Below.grown (h.blo.alloc (by have := h.blo.size; omega) o) hg (by have := h.blo.size; omega) (fun i e => ?_)
    have := (h.own.lt i e).1
    omega
  refine ⟨fun j => fcell k3 j, fun j => ffree k3 j, ?_, ?_, ?_, hs, ?_, ?_, l1, l2, l3⟩
  · exact (Below.heap_setCell _ _ _ _ (by simp; omega)).trans (keep _ _ h.b0 (by omega))
  · exact (Below.heap_setCell _ _ _ _ (by simp; omega)).trans (keep _ _ h.b1 (by omega))
  · exact (Below.heap_setCell _ _ _ _ (by simp; omega)).trans (keep _ _ h.b2 (by omega))
  · rw [newCells_succ]
    exact ownsRow_setCell_below ho (a := ⟨fb, 0, none⟩) (by simp) _
  · exact hb.setCell (p := ⟨fb, 0, none⟩) (by simp; omega) _
abbrev fset6 (w : World) (b : Nat) (v0 v1 v2 v3 v4 v5 : Value) : World := (((((w.setCell ⟨b, 0, none⟩ v0).setCell ⟨b, 1, none⟩ v1).setCell ⟨b, 2, none⟩ v2).setCell ⟨b, 3, none⟩ v3).setCell ⟨b, 4, none⟩ v4).setCell ⟨b, 5, none⟩ v5
theorem own_fset6 {w : World} {base e size n : Nat} {v : Value} {xs : List Value} (h : w.ownsRow base e size v n xs) (b : Nat) (hb : b < base) (v0 v1 v2 v3 v4 v5 : Value) : (fset6 w b v0 v1 v2 v3 v4 v5).ownsRow base e size v n xs :=
  ownsRow_setCell_below (ownsRow_setCell_below (ownsRow_setCell_below (ownsRow_setCell_below (ownsRow_setCell_below (ownsRow_setCell_below h (a := ⟨b, 0, none⟩) hb _) (a := ⟨b, 1, none⟩) hb _) (a := ⟨b, 2, none⟩) hb _) (a := ⟨b, 3, none⟩) hb _) (a := ⟨b, 4, none⟩) hb _) (a := ⟨b, 5, none⟩) hb _
theorem below_fset6 {B : Nat} {a w : World} (h : Below B a w) (b : Nat) (hb : B ≤ b) (v0 v1 v2 v3 v4 v5 : Value) : Below B a (fset6 w b v0 v1 v2 v3 v4 v5) :=
  (((((h.setCell (p := ⟨b, 0, none⟩) hb _).setCell (p := ⟨b, 1, none⟩) hb _).setCell (p := ⟨b, 2, none⟩) hb _).setCell (p := ⟨b, 3, none⟩) hb _).setCell (p := ⟨b, 4, none⟩) hb _).setCell (p := ⟨b, 5, none⟩) hb _
/-- What is answered of a new fabric. -/
def NewAns (w w' : World) (e : Ending) (most : Int) (n : Nat) : Prop :=
  ∃ a q b p, e = .returned (fabOutV a n q b 4 p none 0 0 0 0 0) ∧ w'.ownsRow w.heap.size 36 4 (.slice a n q) n (newCells most n) ∧ w'.ownsRow w.heap.size 2 1 (.slice b 4 p) 4 (List.replicate 4 (.int .i64 0)) ∧ Below w.heap.size w w'
theorem FW.ans {w u : World} {rb eb fb : Nat} {most : Int} {a : Option Addr} {k q : Nat} (h : FW w u rb eb fb most a k q) (v0 v1 v2 v3 v4 v5 : Value) :
    NewAns w (fset6 u w.heap.size v0 v1 v2 v3 v4 v5) (.returned (fabOutV a k q (some ⟨eb, 0, none⟩) 4 4 none 0 0 0 0 0)) most k := by
  have l1 := h.l1
  have l2 := h.l2
  have l3 := h.l3
  have he : u.ownsRow eb 2 1 (.slice (some ⟨eb, 0, none⟩) 4 4) 4 (List.replicate 4 (.int .i64 0)) := ⟨rfl, .inr ⟨eb, 4, _, rfl, Nat.le_refl _, h.b2, Nat.le_refl _, by unfold maxLen; omega, rfl, rfl⟩⟩
  exact ⟨a, q, _, 4, rfl, (own_fset6 h.own _ (by omega) v0 v1 v2 v3 v4 v5).mono (by omega), (own_fset6 he _ (by omega) v0 v1 v2 v3 v4 v5).mono (by omega), below_fset6 h.blo _ (Nat.le_refl _) v0 v1 v2 v3 v4 v5⟩
theorem FW.start {w w1 : World} {most : Int} (hb : Below (w.alloc (fabOutObj none 0 0 none 0 0 none 0 0 0 0 0)).heap.size (w.alloc (fabOutObj none 0 0 none 0 0 none 0 0 0 0 0)) w1) :
    FW w (((w1.alloc (.cells #[.int .i64 most, .int .i64 0, .slice none 0 0, .slice none 0 0, .int .i64 0, .int .i64 0, .string ⟨#[]⟩, .int .i64 0] 40 (0, 0))).alloc (.cells #[.int .i64 0, .int .i64 0, .int .i64 0, .int .i64 0] 2 (0, 0))).alloc (fabObj none 0 0 (some ⟨w1.heap.size + 1, 0, none⟩) 4 4 none 0 0 0)) w1.heap.size (w1.heap.size + 1) (w1.heap.size + 1 + 1) most none 0 0 := by
  have h0 := fblk (heap_alloc_new w (fabOutObj none 0 0 none 0 0 none 0 0 0 0 0)) hb
  have hlt := fblk_lt h0
  have hB : Below w.heap.size w w1 := below_tr ((Below.refl _ _).alloc (Nat.le_refl _) _) hb
  have hz := hB.size
  refine ⟨?_, ?_, ?_, ?_, World.ownsRow_nil _ _ _ _, ?_, hlt, by omega, by omega⟩
  · exact (Below.heap_alloc _ _ _ (by simp; omega)).trans ((Below.heap_alloc _ _ _ (by simp; omega)).trans ((Below.heap_alloc _ _ _ (by omega)).trans h0))
  · exact (Below.heap_alloc _ _ _ (by simp; omega)).trans ((Below.heap_alloc _ _ _ (by simp)).trans (heap_alloc_new _ _))
  · have h := heap_alloc_new (w1.alloc (.cells #[.int .i64 most, .int .i64 0, .slice none 0 0, .slice none 0 0, .int .i64 0, .int .i64 0, .string ⟨#[]⟩, .int .i64 0] 40 (0, 0))) (.cells #[.int .i64 0, .int .i64 0, .int .i64 0, .int .i64 0] 2 (0, 0))
    rw [World.size_alloc] at h
    exact (Below.heap_alloc _ _ _ (by simp)).trans h
  · have h := heap_alloc_new ((w1.alloc (.cells #[.int .i64 most, .int .i64 0, .slice none 0 0, .slice none 0 0, .int .i64 0, .int .i64 0, .string ⟨#[]⟩, .int .i64 0] 40 (0, 0))).alloc (.cells #[.int .i64 0, .int .i64 0, .int .i64 0, .int .i64 0] 2 (0, 0))) (fabObj none 0 0 (some ⟨w1.heap.size + 1, 0, none⟩) 4 4 none 0 0 0)
    rw [World.size_alloc, World.size_alloc] at h
    exact h
  · exact ((hB.alloc (by omega) _).alloc (by simp; omega) _).alloc (by simp; omega) _
theorem own_ringV {w : World} {base n : Nat} {v : Value} {xs : List Value} (h : w.ownsRow base 36 4 v n xs) : ∃ a c, v = .slice a n c := by
  rcases h.2 with ⟨rfl, rfl⟩ | ⟨g, cap, cur, rfl, _⟩
  · exact ⟨none, 0, rfl⟩
  · exact ⟨_, cap, rfl⟩
theorem spec_fill (c : Int) (w : World) : Calls Try.prog 11 #[.int .i64 c] w fun e w' => e = .returned (fabIll c) ∧ Below w.heap.size w w' := by
  go_enter Try.func11, Try.ntmps11
  go_wp2
  exact bodyPost_ret (v := fabIll c) (by simp [results, Try.results11, go_sem]) rfl ⟨rfl, (Below.refl _ _).alloc (Nat.le_refl _) _⟩
theorem spec_fis (n lo hi : Int) (w : World) : Calls Try.prog 10 #[.int .i64 n, .int .i64 lo, .int .i64 hi] w fun e w' => e = .returned (.bool (decide (lo ≤ n ∧ n ≤ hi))) ∧ w' = w := by
  by_cases h1 : lo ≤ n
  · by_cases h2 : n ≤ hi
    · go_enter Try.func10, Try.ntmps10
      go_wp2
      go_ret
      exact ⟨ret_bool (decide_eq_true ⟨h1, h2⟩).symm, rfl⟩
    · go_enter Try.func10, Try.ntmps10
      go_wp2
      go_ret
      exact ⟨ret_bool (decide_eq_false (by omega)).symm, rfl⟩
  · go_enter Try.func10, Try.ntmps10
    go_wp2
    go_ret
    exact ⟨ret_bool (by simp; omega), rfl⟩
end Go.Proofs.Ytopbfjdjlgecpaa
