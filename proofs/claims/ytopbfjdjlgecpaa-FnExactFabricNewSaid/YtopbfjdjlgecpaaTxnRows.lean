/- Transactions as values in memory: slices of numbers that can be read. -/
import Derived.Test.YtopbfjdjlgecpaaBase
import Derived.Below
import Derived.RegionTactic
import Derived.LoopTactic
import Derived.BigRegion
import Derived.Deep.QuietTactic
import Derived.BigQuiet
import Derived.Deep.RegionWith
import Derived.Outline
import Derived.Laws.AppendOwn
import Derived.Laws.OwnMore
import Derived.OwnWalk
namespace Go.Proofs.Ytopbfjdjlgecpaa
open Go.RowKit

/-- A slice of numbers that can be read. -/
def Nums (w : World) (a : Option Addr) (len : Nat) (l : List Int) : Prop :=
  l.length = len ∧ ∀ i (h : i < l.length), ∃ b off, a = some ⟨b, off, none⟩ ∧ w.cell? ⟨b, off + i, none⟩ = some (.int .i64 l[i])
theorem nums_below {w w' : World} {a : Option Addr} {len : Nat} {l : List Int} (h : Nums w a len l) (hb : Below w.heap.size w w') : Nums w' a len l :=
  ⟨h.1, fun i hi => by
    obtain ⟨b, off, e, hc⟩ := h.2 i hi
    exact ⟨b, off, e, (hb.cell (p := ⟨b, off + i, none⟩) (World.block_lt_of_cell? w ⟨b, off + i, none⟩ hc)).trans hc⟩⟩
theorem nums_at {w wr : World} {a : Option Addr} {n : Nat} {l : List Int} (h : Nums w a n l) (hb : Below w.heap.size w wr) {k : Nat} (hk : k < n) :
    ∃ b off V, a = some ⟨b, off, none⟩ ∧ l[k]? = some V ∧ wr.cell? ⟨b, off + k, none⟩ = some (.int .i64 V) := by
  have hkl : k < l.length := by rw [h.1]; exact hk
  obtain ⟨b, off, e, hc⟩ := (nums_below h hb).2 k hkl
  exact ⟨b, off, l[k], e, by simp [hkl], hc⟩
theorem nums_get {w wr : World} {a : Option Addr} {n : Nat} {l : List Int} (h : Nums w a n l) (hb : Below w.heap.size w wr) {k : Nat} (hk : k < n) :
    ∃ b off, a = some ⟨b, off, none⟩ ∧ ∃ h : k < l.length, wr.cell? ⟨b, off + k, none⟩ = some (.int .i64 l[k]) := by
  have hkl : k < l.length := by rw [h.1]; exact hk
  obtain ⟨b, off, e, hc⟩ := (nums_below h hb).2 k hkl
  exact ⟨b, off, e, hkl, hc⟩
theorem tbelow_tr {w u v : World} (h : Below w.heap.size w u) (hb : Below u.heap.size u v) : Below w.heap.size w v := h.trans (hb.mono h.size)
theorem tbelow_dn {B : Nat} {a w : World} (h : Below B a w) (n : Nat) : Below B a (w.drewN n) := ⟨h.os, h.tape, h.output, h.size, h.block⟩
theorem tbelow_new (w : World) (o : Obj) : Below w.heap.size w (w.alloc o) := (Below.refl _ _).alloc (Nat.le_refl _) _
theorem tbelow_grown {w w' : World} (h : Below w.heap.size w w') : w.grownBy w' none := ⟨h.os, h.tape, h.output, h.size, fun k hk _ => h.block k hk⟩
abbrev txnV (p e s u : Int) (ra : Option Addr) (rl rc : Nat) (la : Option Addr) (ll lc : Nat) : Value := .agg #[.int .i64 p, .int .i64 e, .int .i64 s, .int .i64 u, .slice ra rl rc, .slice la ll lc]
abbrev txnObj (p e s u : Int) (ra : Option Addr) (rl rc : Nat) (la : Option Addr) (ll lc : Nat) : Obj := .cells #[.int .i64 p, .int .i64 e, .int .i64 s, .int .i64 u, .slice ra rl rc, .slice la ll lc] 59 (0, 0)
abbrev numCells (l : List Int) : List Value := l.map (Value.int .i64)
/-- A slice of numbers that can be read, and cut. -/
structure NumIn (w : World) (a : Option Addr) (n c : Nat) (l : List Int) : Prop where
  nums : Nums w a n l
  lt : ∀ x, a = some x → x.block < w.heap.size
  nil : a = none → n = 0 ∧ c = 0
  cap : n ≤ c
  off : ∀ x, a = some x → x = ⟨x.block, x.off, none⟩
theorem NumIn.below {w w' : World} {a : Option Addr} {n c : Nat} {l : List Int} (h : NumIn w a n c l) (hb : Below w.heap.size w w') : NumIn w' a n c l := ⟨nums_below h.nums hb, fun x e => Nat.lt_of_lt_of_le (h.lt x e) hb.size, h.nil, h.cap, h.off⟩
theorem nums_news {w : World} {a : Option Addr} {n : Nat} {l : List Int} (h : Nums w a n l) : ∀ x, a = some x → ∀ k u, (numCells l)[k]? = some u → w.cell? (x.add k) = some u := fun x e k u hu => by
  have hk : k < l.length := by have := (List.getElem?_eq_some_iff.1 hu).1; simpa using this
  obtain ⟨b, off, e', hc⟩ := h.2 k hk
  rw [e] at e'
  cases e'
  rw [Addr.add_lit, hc, ← hu]
  simp [hk]
theorem numCells_one (l : List Int) : ∀ u ∈ numCells l, u.oneCell' = true := by
  intro u hu
  obtain ⟨s, _, rfl⟩ := List.mem_map.1 hu
  rfl
theorem own_nform {w : World} {base e size n : Nat} {a : Option Addr} {c : Nat} {xs : List Value} (h : w.ownsRow base e size (.slice a n c) n xs) (hn : 0 < n) : ∃ g, a = some ⟨g, 0, none⟩ := by
  rcases h.2 with ⟨e1, h0⟩ | ⟨g, cap, cur, e1, _⟩
  · omega
  · simp only [Value.slice.injEq] at e1
    exact ⟨g, e1.1⟩
theorem own_nums {w : World} {base n c : Nat} {a : Option Addr} {l : List Int} (h : w.ownsRow base 2 1 (.slice a n c) n (numCells l)) : Nums w a n l := by
  have hl : l.length = n := by simpa using h.1
  refine ⟨hl, fun i hi => ?_⟩
  obtain ⟨g, rfl⟩ := own_nform h (by omega)
  refine ⟨g, 0, rfl, ?_⟩
  rw [Nat.zero_add, h.cellAt i (by omega)]
  simp [hi]
theorem own_numV {w : World} {base n : Nat} {v : Value} {xs : List Value} (h : w.ownsRow base 2 1 v n xs) : ∃ a c, v = .slice a n c := by
  rcases h.2 with ⟨rfl, rfl⟩ | ⟨g, cap, cur, rfl, _⟩
  · exact ⟨none, 0, rfl⟩
  · exact ⟨_, _, rfl⟩
theorem own_numIn {w : World} {base n : Nat} {v : Value} {l : List Int} (h : w.ownsRow base 2 1 v n (numCells l)) : ∃ a c, v = .slice a n c ∧ NumIn w a n c l := by
  have h' := h
  rcases h.2 with ⟨rfl, rfl⟩ | ⟨g, cap, cur, rfl, _, hg, hc, _⟩
  · exact ⟨none, 0, rfl, own_nums h', (fun x e => by cases e), (fun _ => ⟨rfl, rfl⟩), Nat.le_refl _, (fun x e => by cases e)⟩
  · exact ⟨some ⟨g, 0, none⟩, cap, rfl, own_nums h', (fun x e => by cases e; exact (Array.getElem?_eq_some_iff.1 hg).1), (fun e => by cases e), hc, (fun x e => by cases e; rfl)⟩
theorem info_i64 : (Try.prog.info? 2).map (fun i => (i.zero, i.size, i.bytes)) = some (some (.int .i64 0), 1, 8) := by kernel_rfl

theorem twrap_in (n : Int) (h1 : -9223372036854775808 ≤ n) (h2 : n ≤ 9223372036854775807) : IntKind.i64.wrap n = n := by
  simp [IntKind.wrap, IntKind.bits, IntKind.signed]; omega

/-- Rings as numbers: from 0 to 3. -/
def rnum (x : Int) : Bool := decide (0 ≤ x ∧ x ≤ 3)
def upTo (l : List Int) (k : Nat) : Prop := ∀ j, j + 1 < k → ∀ (h : j + 1 < l.length), l[j] < l[j + 1]
def upB (l : List Int) : Bool := decide (∀ j, j < l.length → ∀ (h : j + 1 < l.length), l[j] < l[j + 1])
theorem up_yes {l : List Int} {k : Nat} (h : upTo l k) (hk : l.length ≤ k) : upB l = true := decide_eq_true fun j _ h1 => h j (by omega) h1
theorem up_no {l : List Int} {k : Nat} (h1 : k + 1 < l.length) (h : ¬ l[k] < l[k + 1]) : upB l = false := decide_eq_false fun hh => h (hh k (by omega) h1)
theorem up_at {l : List Int} (h : upB l = true) {i j : Nat} (hij : i < j) (hj : j < l.length) : l[i] < l[j] := by
  have hh := of_decide_eq_true h
  induction j with
  | zero => omega
  | succ j ih =>
    have h1 := hh j (by omega) hj
    by_cases e : i = j
    · subst e; exact h1
    · exact Int.lt_trans (ih (by omega) (by omega)) h1
/-- Numbers of rings that may be. -/
def ringsB (l : List Int) : Bool := l.all rnum && upB l
def hasB (l : List Int) (n : Int) : Bool := l.any (fun x => x == n)
def txnRightB (p e s u : Int) (rs ls : List Int) : Bool :=
  decide (1 ≤ p ∧ p ≤ 4) && decide (1 ≤ e ∧ e ≤ 1000000) && decide (1 ≤ s ∧ s ≤ 3) && decide (0 ≤ u ∧ u ≤ 1000000) && ringsB rs && ringsB ls && ls.all (hasB rs) && (decide (s ≠ 1) || decide (ls.length = 0))
end Go.Proofs.Ytopbfjdjlgecpaa
