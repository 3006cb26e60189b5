import Derived.Test.YtdepaeajfldfbaaGreatDoorAppendMore
import Derived.Test.YtdepaeajfldfbaaGreatDoorLawRing4
import Derived.Test.YtdepaeajfldfbaaGreatDoorRingNew
import Derived.Deep.RegionHeld3
import Derived.Deep.DeepCutAuto
import Derived.Deep.DrawnRows
/- Rows cut, with one thing more, and without one. -/
namespace Go.Proofs.YtdepaeajfldfbaaGreatDoor
open Go.RowKit
attribute [local go_sem ↓] Go.wp_at_zero Go.wp_at_succ

/-- A slice of cursors that can be read. -/
structure CurIn (w : World) (a : Option Addr) (n c : Nat) (l : List (Int × Int)) : Prop where
  curs : Curs w a n l
  lt : ∀ x, a = some x → x.block < w.heap.size
  nil : a = none → n = 0 ∧ c = 0
  cap : n ≤ c
  off : ∀ x, a = some x → x = ⟨x.block, x.off, none⟩
structure StrIn (w : World) (a : Option Addr) (n c : Nat) (l : List ByteArray) : Prop where
  strs : Strs w a n l
  lt : ∀ x, a = some x → x.block < w.heap.size
  nil : a = none → n = 0 ∧ c = 0
  cap : n ≤ c
  off : ∀ x, a = some x → x = ⟨x.block, x.off, none⟩
/-- Where a slice begins that is cut from i to j, size cells an element. -/
def cutAt (a : Option Addr) (size i j : Nat) : Option Addr := if j = i then a else a.map fun x => ⟨x.block, x.off + i * size, none⟩
theorem cutAt_off {a : Option Addr} {size i j : Nat} (h : ∀ x, a = some x → x = ⟨x.block, x.off, none⟩) : ∀ x, cutAt a size i j = some x → x = ⟨x.block, x.off, none⟩ := fun x e => by
  unfold cutAt at e
  split at e
  · exact h x e
  · cases a with
    | none => cases e
    | some y => simp at e; rw [← e]
theorem cutAt_none {a : Option Addr} {size i j : Nat} (e : cutAt a size i j = none) : a = none := by
  unfold cutAt at e
  split at e
  · exact e
  · cases a with
    | none => rfl
    | some y => simp at e
theorem cutAt_lt {w : World} {a : Option Addr} {size i j : Nat} (h : ∀ x, a = some x → x.block < w.heap.size) : ∀ x, cutAt a size i j = some x → x.block < w.heap.size := fun x e => by
  unfold cutAt at e
  split at e
  · exact h x e
  · cases a with
    | none => cases e
    | some y => simp at e; rw [← e]; exact h y rfl
theorem cut_curs {w : World} {a : Option Addr} {n i j : Nat} {l : List (Int × Int)} (h : Curs w a n l) (hij : i ≤ j) (hj : j ≤ n) : Curs w (cutAt a 2 i j) (j - i) ((l.drop i).take (j - i)) := by
  have hl : l.length = n := h.1
  refine ⟨by simp; omega, fun k hk => ?_⟩
  have hk' : k < j - i := by simp at hk; omega
  obtain ⟨b, off, e, hc, hd⟩ := h.2 (i + k) (by omega)
  refine ⟨b, off + i * 2, ?_, ?_, ?_⟩
  · unfold cutAt; rw [if_neg (by omega), e]; rfl
  · rw [show off + i * 2 + k * 2 = off + (i + k) * 2 by omega, hc]; simp
  · rw [show off + i * 2 + k * 2 + 1 = off + (i + k) * 2 + 1 by omega, hd]; simp
theorem cut_strs {w : World} {a : Option Addr} {n i j : Nat} {l : List ByteArray} (h : Strs w a n l) (hij : i ≤ j) (hj : j ≤ n) : Strs w (cutAt a 1 i j) (j - i) ((l.drop i).take (j - i)) := by
  have hl : l.length = n := h.1
  refine ⟨by simp; omega, fun k hk => ?_⟩
  have hk' : k < j - i := by simp at hk; omega
  obtain ⟨b, off, e, hc⟩ := h.2 (i + k) (by omega)
  refine ⟨b, off + i * 1, ?_, ?_⟩
  · unfold cutAt; rw [if_neg (by omega), e]; rfl
  · rw [show off + i * 1 + k = off + (i + k) by omega, hc]; simp
theorem curs_news {w : World} {a : Option Addr} {n : Nat} {l : List (Int × Int)} (h : Curs w a n l) : ∀ x, a = some x → ∀ k u, (curCells l)[k]? = some u → w.cell? (x.add k) = some u := fun x e k u hu => by
  have hk : k < (curCells l).length := (List.getElem?_eq_some_iff.1 hu).1
  rw [curCells_length] at hk
  obtain ⟨b, off, e', hc, hd⟩ := h.2 (k / 2) (by omega)
  rw [e] at e'
  cases e'
  rw [Addr.add_lit]
  have hcc := curCells_at l (k / 2) (by omega)
  by_cases h2 : k = k / 2 * 2
  · rw [← h2] at hc hcc
    rw [hc, ← hu, hcc.1]
  · have h3 : k = k / 2 * 2 + 1 := by omega
    rw [show off + k / 2 * 2 + 1 = off + (k / 2 * 2 + 1) by omega, ← h3] at hd
    rw [← h3] at hcc
    rw [hd, ← hu, hcc.2]
theorem strs_news {w : World} {a : Option Addr} {n : Nat} {l : List ByteArray} (h : Strs w a n l) : ∀ x, a = some x → ∀ k u, (l.map Value.string)[k]? = some u → w.cell? (x.add k) = some u := fun x e k u hu => by
  have hk : k < l.length := by have := (List.getElem?_eq_some_iff.1 hu).1; simpa using this
  obtain ⟨b, off, e', hc⟩ := h.2 k hk
  rw [e] at e'
  cases e'
  rw [Addr.add_lit, hc, ← hu]
  simp [hk]
theorem curCells_one (l : List (Int × Int)) : ∀ u ∈ curCells l, u.oneCell' = true := by
  induction l with
  | nil => intro u hu; cases hu
  | cons c r ih =>
    intro u hu
    simp only [curCells, List.mem_cons] at hu
    rcases hu with rfl | rfl | hu
    · rfl
    · rfl
    · exact ih u hu
theorem strCells_one (l : List ByteArray) : ∀ u ∈ l.map Value.string, u.oneCell' = true := by
  intro u hu
  obtain ⟨s, _, rfl⟩ := List.mem_map.1 hu
  rfl
theorem own_curIn {w : World} {base n : Nat} {v : Value} {l : List (Int × Int)} (h : w.ownsRow base 138 2 v n (curCells l)) : ∃ a c, v = .slice a n c ∧ CurIn w a n c l := by
  have h' := h
  rcases h.2 with ⟨rfl, rfl⟩ | ⟨g, cap, cur, rfl, _, hg, hc, _⟩
  · exact ⟨none, 0, rfl, own_curs h', (fun x e => by cases e), (fun _ => ⟨rfl, rfl⟩), Nat.le_refl _, (fun x e => by cases e)⟩
  · exact ⟨some ⟨g, 0, none⟩, cap, rfl, own_curs h', (fun x e => by cases e; exact (Array.getElem?_eq_some_iff.1 hg).1), (fun e => by cases e), hc, (fun x e => by cases e; rfl)⟩
theorem own_strIn {w : World} {base n : Nat} {v : Value} {l : List ByteArray} (h : w.ownsRow base 9 1 v n (l.map Value.string)) : ∃ a c, v = .slice a n c ∧ StrIn w a n c l := by
  have h' := h
  rcases h.2 with ⟨rfl, rfl⟩ | ⟨g, cap, cur, rfl, _, hg, hc, _⟩
  · exact ⟨none, 0, rfl, own_strs h', (fun x e => by cases e), (fun _ => ⟨rfl, rfl⟩), Nat.le_refl _, (fun x e => by cases e)⟩
  · exact ⟨some ⟨g, 0, none⟩, cap, rfl, own_strs h', (fun x e => by cases e; exact (Array.getElem?_eq_some_iff.1 hg).1), (fun e => by cases e), hc, (fun x e => by cases e; rfl)⟩
theorem with_fin {w : World} {base m m' : Nat} {v : Value} {l r : List (Int × Int)} {G A : Int} (h : w.ownsRow base 138 2 v m ((curCells l ++ [.int .i64 G, .int .i64 A]) ++ curCells r)) (e : m = m') : w.ownsRow base 138 2 v m' (curCells (l ++ (G, A) :: r)) := by
  subst e
  rw [curCells_append]
  simpa [curCells] using h
theorem alloc2_lt (w : World) (o o' : Obj) : w.heap.size < ((w.alloc o).alloc o').drew.heap.size := by
  have hs : ((w.alloc o).alloc o').drew.heap.size = w.heap.size + 2 := by simp
  omega
theorem with_apart {w w2 : World} {o o' : Obj} {e size n : Nat} {v : Value} {xs : List Value} (ho : w2.ownsRow ((w.alloc o).alloc o').drew.heap.size e size v n xs) (hg : ((w.alloc o).alloc o').drew.grownBy w2 none) : w.heap.size < w2.heap.size ∧ some w.heap.size ≠ v.ownBlock := by
  have h := hg.size
  have hs : ((w.alloc o).alloc o').drew.heap.size = w.heap.size + 2 := by simp
  refine ⟨by omega, fun e => ?_⟩
  have := ho.lt _ e.symm
  omega
end Go.Proofs.YtdepaeajfldfbaaGreatDoor
/- Rows of texts with one more; rows of cursors without one. -/
namespace Go.Proofs.YtdepaeajfldfbaaGreatDoor
open Go.RowKit

theorem with_finS {w : World} {base m m' : Nat} {v : Value} {l r : List ByteArray} {s : ByteArray} (h : w.ownsRow base 9 1 v m ((l.map Value.string ++ [.string s]) ++ r.map Value.string)) (e : m = m') : w.ownsRow base 9 1 v m' ((l ++ s :: r).map Value.string) := by
  subst e
  simpa using h
end Go.Proofs.YtdepaeajfldfbaaGreatDoor
/- Rows of cursors without one. -/
namespace Go.Proofs.YtdepaeajfldfbaaGreatDoor
open Go.RowKit

theorem run_append_zero {P : Program} {w : World} (t ty e : TypeId) (i : TypeInfo) (ht : P.underlying t = some (.slice e)) (hi : P.info? e = some i) (b off n : Nat) (ad : Addr) (c : Nat) :
    (Builtin.append_ #[t, t] ty #[.slice (some ⟨b, off, none⟩) n n, .slice (some ad) 0 c]).run P w = .ok (.slice (some ⟨b, off, none⟩) n n) w := by
  have h := run_append_room_cells (P := P) w t ty e i ht hi b off n n ad 0 c [] (by simp) (fun j u h => by simp at h) (fun u h => by cases h) (by omega) (fun j h => by simp at h) (fun j h => by simp at h)
  simpa [World.setCells] using h
theorem wpList_append_zero {P : Program} {w : World} {ops : Array Oper} {rest : List Oper} {o : Oper} {a : Act} {Q : Exit → Act → World → Prop} (hgd : o.guard = none) (s x : Operand) (t : TypeId)
    (ho : o.op = .call { callee := .builtin .append, args := #[s, x], argTypes := #[t, t] }) (e : TypeId) (i : TypeInfo) (ht : P.underlying t = some (.slice e)) (hi : P.info? e = some i) (b off n : Nat) (ad : Addr) (c : Nat)
    (hs : a.eval s = .slice (some ⟨b, off, none⟩) n n) (hx : a.eval x = .slice (some ad) 0 c) (h : wpList P ops Q rest (a.put o.dst (.slice (some ⟨b, off, none⟩) n n)) w) : wpList P ops Q (o :: rest) a w := by
  refine wpList_plain hgd fun K hK => ?_
  have hr := run_append_zero (P := P) (w := w) t o.type e i ht hi b off n ad c
  unfold Oper.wp execOp
  simp only [ho, resolve, invoke, builtin, Sem.run_bind, Sem.run_pure, Result.andThen_ok, List.map_toArray, List.map_cons, List.map_nil, hs, hx, hr]
  exact hK _ _ h
theorem own_capMax {w : World} {base e size n m c : Nat} {a : Option Addr} {xs : List Value} (h : w.ownsRow base e size (.slice a n c) m xs) : c ≤ maxLen := by
  rcases h.2 with ⟨e1, _⟩ | ⟨g, cap, cur, e1, _, _, _, hm, _⟩
  · simp only [Value.slice.injEq] at e1
    rw [e1.2.2]
    exact Nat.zero_le _
  · simp only [Value.slice.injEq] at e1
    rw [e1.2.2]
    exact hm
end Go.Proofs.YtdepaeajfldfbaaGreatDoor
