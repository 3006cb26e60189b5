import Derived.Test.YtahccighonddaaaGreatDoorNrm
import Derived.Test.YtahccighonddaaaGreatDoorFabEnds
import Derived.Test.YtahccighonddaaaGreatDoorRoundHeld
import Derived.Test.YtahccighonddaaaGreatDoorRingAsk
import Derived.Test.YtahccighonddaaaGreatDoorSpecMove
namespace Go.Proofs.YtahccighonddaaaGreatDoor
open Go.RowKit Go.Shelf
attribute [local go_sem] Oper.semAt_some
set_option linter.unusedSimpArgs false
variable {B : Nat} {ta : Option Addr} {tl tc M : Nat} {ra : Option Addr} {rl rc : Nat} {ea : Option Addr} {el ec : Nat} {now began puts : Int}
def pFit (ts : List TD) (k : Int) (x : PRec) : Bool := numFitB ts k x.1.2.2.1
theorem pFit_at (ts : List TD) (k : Int) (first : Int) (recs : List ByteArray) (j : Nat) (h : j < recs.length) : pFit ts k (pRec first recs j) = recFitB ts k recs[j] := by
  have hg : recs.getD j ⟨#[]⟩ = recs[j] := by rw [List.getD_eq_getElem?_getD,List.getElem?_eq_getElem h]; rfl
  unfold pFit pRec recFitB
  simp only [hg]
  rfl
theorem fitRecs_yes (ts : List TD) (k : Int) (first : Int) (recs : List ByteArray) (h : ∀ y ∈ upto (pRec first recs) recs.length,pFit ts k y = true) : recs.all (recFitB ts k) = true := by
  rw [List.all_eq_true]
  intro s hs
  obtain ⟨j,hj,rfl⟩ := List.getElem_of_mem hs
  rw [← pFit_at ts k first recs j hj]
  exact h _ (List.mem_map.2 ⟨j,List.mem_range.2 hj,rfl⟩)
theorem fitRecs_no (ts : List TD) (k : Int) (first : Int) (recs : List ByteArray) (K : Nat) (hK : K ≤ recs.length) (h : ∃ y ∈ upto (pRec first recs) K,pFit ts k y = false) : recs.all (recFitB ts k) = false := by
  obtain ⟨y,hy,hf⟩ := h
  obtain ⟨j,hj,rfl⟩ := List.mem_map.1 hy
  have hj' : j < recs.length := by have := List.mem_range.1 hj; omega
  rw [pFit_at ts k first recs j hj'] at hf
  rw [List.all_eq_false]
  exact ⟨recs[j],List.getElem_mem hj',by simp [hf]⟩
structure RB3 (w v : World) (B : Nat) (k : Nat) : Prop where
  p : v.heap[w.heap.size]? = some (.cells #[.pointer (some ⟨B,0,none⟩)] 75 (0,0))
  k : v.heap[w.heap.size + 1]? = some (.cells #[.int .i64 (k : Int)] 2 (0,0))
  r : v.heap[w.heap.size + 1 + 1]? = some (.cells #[.bool false] 4 (0,0))
theorem RB3.under {w u v : World} {B k : Nat} (h : RB3 w u B k) (hb : Below u.heap.size u v) : RB3 w v B k :=
  ⟨(hb.block _ (fb_lt h.p)).trans h.p,(hb.block _ (fb_lt h.k)).trans h.k,(hb.block _ (fb_lt h.r)).trans h.r⟩
theorem RB3.no {w u : World} {B k : Nat} (h : RB3 w u B k) : RB3 w (u.setCell ⟨w.heap.size + 1 + 1,0,none⟩ (.bool false)) B k := by
  have hS := grown_setc u (w.heap.size + 1 + 1) 0 (.bool false)
  exact ⟨(hS.block _ (fb_lt h.p) (by simp; omega)).trans h.p,(hS.block _ (fb_lt h.k) (by simp)).trans h.k,heap_setCell_same _ _ 0 _ _ _ h.r⟩
theorem RB3.own {w u v : World} {B k : Nat} {row : Option Nat} (h : RB3 w u B k) (hg : u.grownBy v row) (hr : ∀ r,row = some r → ∃ o : Obj,u.heap[r]? = some o ∧ o.isCells = false) : RB3 w v B k := ⟨heap_own h.p hg hr,heap_own h.k hg hr,heap_own h.r hg hr⟩
theorem rb3_new (w : World) (B k : Nat) : RB3 w (((w.alloc (.cells #[.pointer (some ⟨B,0,none⟩)] 75 (0,0))).alloc (.cells #[.int .i64 (k : Int)] 2 (0,0))).alloc (.cells #[.bool false] 4 (0,0))) B k := by
  refine ⟨(Below.heap_alloc _ _ _ (by simp; omega)).trans ((Below.heap_alloc _ _ _ (by simp)).trans (heap_alloc_new _ _)),?_,?_⟩
  · have h := heap_alloc_new (w.alloc (.cells #[.pointer (some ⟨B,0,none⟩)] 75 (0,0))) (.cells #[.int .i64 (k : Int)] 2 (0,0))
    rw [World.size_alloc] at h
    exact (Below.heap_alloc _ _ _ (by simp)).trans h
  · have h := heap_alloc_new ((w.alloc (.cells #[.pointer (some ⟨B,0,none⟩)] 75 (0,0))).alloc (.cells #[.int .i64 (k : Int)] 2 (0,0))) (.cells #[.bool false] 4 (0,0))
    simp only [World.size_alloc] at h
    exact h
end Go.Proofs.YtahccighonddaaaGreatDoor
namespace Go.Proofs.YtahccighonddaaaGreatDoor
open Go.RowKit
attribute [local go_sem ↓] Go.wp_at_zero Go.wp_at_succ
variable {B : Nat} {ta : Option Addr} {tl tc M : Nat} {ra : Option Addr} {rl rc : Nat} {ea : Option Addr} {el ec : Nat} {now began puts : Int}
structure RA (w v : World) (B : Nat) (o : Obj) (ra : Option Addr) (rl : Nat) (ta : Option Addr) (tl : Nat) (rs : List RD) (ts : List TD) : Prop where
  box : v.heap[B]? = some o
  rs : Rngs v ra rl rs
  ts : Txs v ta tl ts
  bel : Below w.heap.size w v
theorem RA.under {w u v : World} {o : Obj} {rs : List RD} {ts : List TD} (h : RA w u B o ra rl ta tl rs ts) (hb : Below u.heap.size u v) : RA w v B o ra rl ta tl rs ts :=
  ⟨(hb.block _ (fb_lt h.box)).trans h.box,rngs_below h.rs hb,txs_below h.ts hb,below_tr h.bel hb⟩
end Go.Proofs.YtahccighonddaaaGreatDoor
