import Derived.Test.YtneiihikcnjglaaGreatDoorAppendMore
import Derived.Test.YtneiihikcnjglaaGreatDoorLawRing4
import Derived.Test.YtneiihikcnjglaaGreatDoorRingNew
import Derived.Deep.RegionHeld3
import Derived.Deep.DeepCutAuto
import Derived.Deep.DrawnRows
/- Rows cut, with one thing more, and without one. -/
namespace Go.Proofs.YtneiihikcnjglaaGreatDoor
open Go.RowKit
attribute [local go_sem ↓] Go.wp_at_zero Go.wp_at_succ

/-- A slice of cursors that can be read. -/
structure CurIn (w : World) (a : Option Addr) (n c : Nat) (l : List (Int × Int)) : Prop where
  curs : Curs w a n l
  lt : ∀ x, a = some x → x.block < w.heap.size
  nil : a = none → n = 0 ∧ c = 0
  cap : n ≤ c
  off : ∀ x, a = some x → x = ⟨x.block, x.off, none⟩
structure StrIn (w : World) (a : Option Addr) (n c : Nat) (l : List ByteArray) : Prop where
  strs : Strs w a n l
  lt : ∀ x, a = some x → x.block < w.heap.size
  nil : a = none → n = 0 ∧ c = 0
  cap : n ≤ c
  off : ∀ x, a = some x → x = ⟨x.block, x.off, none⟩
theorem curs_news {w : World} {a : Option Addr} {n : Nat} {l : List (Int × Int)} (h : Curs w a n l) : ∀ x, a = some x → ∀ k u, (curCells l)[k]? = some u → w.cell? (x.add k) = some u := fun x e k u hu => by
  have hk : k < (curCells l).length := (List.getElem?_eq_some_iff.1 hu).1
  rw [curCells_length] at hk
  obtain ⟨b, off, e', hc, hd⟩ := h.2 (k / 2) (by omega)
  rw [e] at e'
  cases e'
  rw [Addr.add_lit]
  have hcc := curCells_at l (k / 2) (by omega)
  by_cases h2 : k = k / 2 * 2
  · rw [← h2] at hc hcc
    rw [hc, ← hu, hcc.1]
  · have h3 : k = k / 2 * 2 + 1 := by omega
    rw [show off + k / 2 * 2 + 1 = off + (k / 2 * 2 + 1) by omega, ← h3] at hd
    rw [← h3] at hcc
    rw [hd, ← hu, hcc.2]
theorem strs_news {w : World} {a : Option Addr} {n : Nat} {l : List ByteArray} (h : Strs w a n l) : ∀ x, a = some x → ∀ k u, (l.map Value.string)[k]? = some u → w.cell? (x.add k) = some u := fun x e k u hu => by
  have hk : k < l.length := by have := (List.getElem?_eq_some_iff.1 hu).1; simpa using this
  obtain ⟨b, off, e', hc⟩ := h.2 k hk
  rw [e] at e'
  cases e'
  rw [Addr.add_lit, hc, ← hu]
  simp [hk]
theorem curCells_one (l : List (Int × Int)) : ∀ u ∈ curCells l, u.oneCell' = true := by
  induction l with
  | nil => intro u hu; cases hu
  | cons c r ih =>
    intro u hu
    simp only [curCells, List.mem_cons] at hu
    rcases hu with rfl | rfl | hu
    · rfl
    · rfl
    · exact ih u hu
theorem strCells_one (l : List ByteArray) : ∀ u ∈ l.map Value.string, u.oneCell' = true := by
  intro u hu
  obtain ⟨s, _, rfl⟩ := List.mem_map.1 hu
  rfl
theorem own_curIn {w : World} {base n : Nat} {v : Value} {l : List (Int × Int)} (h : w.ownsRow base 109 2 v n (curCells l)) : ∃ a c, v = .slice a n c ∧ CurIn w a n c l := by
  have h' := h
  rcases h.2 with ⟨rfl, rfl⟩ | ⟨g, cap, cur, rfl, _, hg, hc, _⟩
  · exact ⟨none, 0, rfl, own_curs h', (fun x e => by cases e), (fun _ => ⟨rfl, rfl⟩), Nat.le_refl _, (fun x e => by cases e)⟩
  · exact ⟨some ⟨g, 0, none⟩, cap, rfl, own_curs h', (fun x e => by cases e; exact (Array.getElem?_eq_some_iff.1 hg).1), (fun e => by cases e), hc, (fun x e => by cases e; rfl)⟩
theorem own_strIn {w : World} {base n : Nat} {v : Value} {l : List ByteArray} (h : w.ownsRow base 9 1 v n (l.map Value.string)) : ∃ a c, v = .slice a n c ∧ StrIn w a n c l := by
  have h' := h
  rcases h.2 with ⟨rfl, rfl⟩ | ⟨g, cap, cur, rfl, _, hg, hc, _⟩
  · exact ⟨none, 0, rfl, own_strs h', (fun x e => by cases e), (fun _ => ⟨rfl, rfl⟩), Nat.le_refl _, (fun x e => by cases e)⟩
  · exact ⟨some ⟨g, 0, none⟩, cap, rfl, own_strs h', (fun x e => by cases e; exact (Array.getElem?_eq_some_iff.1 hg).1), (fun e => by cases e), hc, (fun x e => by cases e; rfl)⟩
end Go.Proofs.YtneiihikcnjglaaGreatDoor
/- Rows of texts with one more; rows of cursors without one. -/
namespace Go.Proofs.YtneiihikcnjglaaGreatDoor
open Go.RowKit

end Go.Proofs.YtneiihikcnjglaaGreatDoor
/- Rows of cursors without one. -/
namespace Go.Proofs.YtneiihikcnjglaaGreatDoor
open Go.RowKit

end Go.Proofs.YtneiihikcnjglaaGreatDoor
