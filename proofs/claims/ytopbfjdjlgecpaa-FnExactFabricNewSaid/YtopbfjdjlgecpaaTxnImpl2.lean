/- The program's TxnRight. -/
import Derived.Test.YtopbfjdjlgecpaaTxnImpl
namespace Go.Proofs.Ytopbfjdjlgecpaa
open Go.RowKit
variable {p e s u : Int} {ra la : Option Addr} {rl rc ll lc : Nat}

def leftB (s : Int) (rs ls : List Int) : Bool := if s = 1 then decide (ls.length = 0) else endsB s && (ls.all (touchB rs) && upB ls)
theorem tcell {w : World} {g : Nat} {C : Array Value} {t : TypeId} (h : w.heap[g]? = some (.cells C t (0, 0))) (o : Nat) : w.cell? ⟨g, o, none⟩ = C[o]? := by
  simp [World.cell?, h]
theorem tunfrozen {w : World} {g : Nat} {C : Array Value} {t : TypeId} (h : w.heap[g]? = some (.cells C t (0, 0))) (o : Nat) : w.frozen? ⟨g, o, none⟩ = false := by
  simp [World.frozen?, h]
theorem tblk_lt {u : World} {i : Nat} {o : Obj} (h : u.heap[i]? = some o) : i < u.heap.size := (Array.getElem?_eq_some_iff.1 h).1
theorem tblk {u v : World} {i : Nat} {o : Obj} (h : u.heap[i]? = some o) (hb : Below u.heap.size u v) : v.heap[i]? = some o := (hb.block i (tblk_lt h)).trans h
theorem left_same {s : Int} {rs ls : List Int} (h3 : ringsB rs = true) : leftB s rs ls = (decide (1 ≤ s ∧ s ≤ 3) && ringsB ls && ls.all (hasB rs) && (decide (s ≠ 1) || decide (ls.length = 0))) := by
  have hup : upB rs = true := by simp [ringsB] at h3; exact h3.2
  have hrn : ∀ x ∈ rs, rnum x = true := by simp [ringsB] at h3; exact h3.1
  have ht : ls.all (touchB rs) = ls.all (hasB rs) := by
    congr 1
    funext x
    exact find_has hup x
  unfold leftB
  by_cases hs : s = 1
  · subst hs
    rw [if_pos rfl]
    cases ls with
    | nil => simp [ringsB, upB]
    | cons x r => simp
  · rw [if_neg hs, ht]
    have he : endsB s = decide (1 ≤ s ∧ s ≤ 3) := by
      unfold endsB
      rw [Bool.eq_iff_iff]
      simp
      omega
    rw [he, decide_eq_true hs]
    by_cases hh : ls.all (hasB rs) = true
    · have hl : ls.all rnum = true := by
        rw [List.all_eq_true] at hh ⊢
        intro x hx
        have := hh x hx
        unfold hasB at this
        rw [List.any_eq_true] at this
        obtain ⟨y, hy, e⟩ := this
        rw [← (beq_iff_eq.1 e)]
        exact hrn y hy
      simp [ringsB, hl, hh]
    · have hh' : ls.all (hasB rs) = false := by simpa using hh
      simp [hh']
end Go.Proofs.Ytopbfjdjlgecpaa
