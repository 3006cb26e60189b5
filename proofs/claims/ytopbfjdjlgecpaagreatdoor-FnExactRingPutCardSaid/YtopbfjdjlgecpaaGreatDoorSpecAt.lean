/- RingAt of the specification. -/
import Derived.Test.YtopbfjdjlgecpaaGreatDoorSpecRing3
import Derived.Test.YtopbfjdjlgecpaaGreatDoorSpecFollow
import Derived.Test.YtopbfjdjlgecpaaGreatDoorRecSpec4
import Derived.Deep.DeepCutAuto
namespace Go.Proofs.YtopbfjdjlgecpaaGreatDoor
open Go.RowKit
variable {cap first : Int} {ra ca : Option Addr} {rl rc cl cc : Nat}

/-- The record that is read of place K. -/
def recAt (recs : List ByteArray) (K : Nat) : Int × Int × ByteArray × Nat := readRes (recs.getD K ⟨#[]⟩)
def atR (cap first : Int) (recs : List ByteArray) (curs : List (Int × Int)) (at' : Int) : RO :=
  if ringRightB cap first recs curs = false then RO.ill 1 else if ¬ (first ≤ at' ∧ at' ≤ first + (recs.length : Int) - 1) then RO.ill 8
  else ⟨cap, first, recs, curs, (recAt recs (at' - first).toNat).1, (recAt recs (at' - first).toNat).2.1, (recAt recs (at' - first).toNat).2.2.1, 0⟩
set_option maxRecDepth 100000 in
set_option maxHeartbeats 1000000 in
theorem spec_lat (recs : List ByteArray) (K : Nat) (w : World) (hr : StrIn w ra rl rc recs) (hs : ∀ s ∈ recs, s.size ≤ maxLen) (hK : K < rl) (hrl : rl ≤ 1048576) :
    Calls Tryz.prog 65 #[ringV cap first ra rl rc ca cl cc, .int .i64 (first + (K : Int))] w fun e w' => e = .returned (recV (recAt recs K).1 (recAt recs K).2.1 (recAt recs K).2.2.1) ∧ Below w.heap.size w w' := by
  have hKl : K < recs.length := by rw [hr.strs.1]; exact hK
  have hB0 : Below w.heap.size w ((w.alloc (ringObj cap first ra rl rc ca cl cc)).alloc (.cells #[.int .i64 0, .int .i64 0, .string ⟨#[]⟩] 28)) := ((Below.refl _ _).alloc (Nat.le_refl _) _).alloc (by simp) _
  obtain ⟨b, off, e1, hc⟩ := (strs_below hr.strs hB0).2 K hKl
  have hg : recs.getD K ⟨#[]⟩ = recs[K] := by rw [List.getD_eq_getElem?_getD, List.getElem?_eq_getElem hKl]; rfl
  have HRD : Hid _ := fun w => spec_recRead recs[K] w (hs _ (List.getElem_mem hKl))
  have hra : recAt recs K = readRes recs[K] := by unfold recAt; rw [hg]
  rw [hra]
  clear hg hra
  obtain ⟨V, hV⟩ : ∃ V, recs[K] = V := ⟨_, rfl⟩
  rw [hV] at hc HRD ⊢
  clear hV hKl hs hr
  obtain ⟨R, hR⟩ : ∃ R, readRes V = R := ⟨_, rfl⟩
  rw [hR] at HRD ⊢
  clear hR
  obtain ⟨r1, r2, r3, r4⟩ := R
  have HRE : Hid (∀ w, Calls Tryz.prog 74 #[.string V] w fun e w' => e = .returned (.agg #[.int .i64 r1, .int .i64 r2, .string r3, .int .i64 (r4 : Int)]) ∧ Below w.heap.size w w') := HRD.out
  clear HRD
  subst e1
  have hsub : first + (K : Int) - first = (K : Int) := by omega
  have hfd := field_rec r1 r2 r3 (r4 : Int)
  have hKi : (K : Int) < (rl : Int) := by omega
  have HB0 : Hid _ := hB0
  clear hB0
  go_enter Tryz.func65, Tryz.ntmps65
  go_wp2_with fail
  refine (HRE.out _).mono ?_
  rintro e w1 ⟨rfl, hb1⟩
  have hc1 := fun o => hb1.cell (p := ⟨w.heap.size + 1, o, none⟩) (by simp)
  have hf1 := fun o => hb1.frozen (p := ⟨w.heap.size + 1, o, none⟩) (by simp)
  have HB1 : Hid (Below w.heap.size w w1) := below_tr HB0.out hb1
  clear hb1
  go_wp2
  exact bodyPost_ret (v := recV r1 r2 r3) (by simp [results, Tryz.results65, go_sem, hc1]) rfl ⟨rfl, ((HB1.out.setCell (p := ⟨w.heap.size + 1, 0, none⟩) (Nat.le_succ _) _).setCell (p := ⟨w.heap.size + 1, 1, none⟩) (Nat.le_succ _) _).setCell (p := ⟨w.heap.size + 1, 2, none⟩) (Nat.le_succ _) _⟩
theorem at_ans {w w6 : World} {cap first : Int} {base rl cl : Nat} {recs : List ByteArray} {curs : List (Int × Int)} {a : Option Addr} {q : Nat} {c : Option Addr} {p : Nat} {k t : Int} {d : ByteArray} (ho : OwnRing w6 base a rl q c cl p (recs.map Value.string) (curCells curs)) (hB : Below w.heap.size w w6) (hr : recs.length = rl) (hl : curs.length = cl) (hz : w.heap.size + 1 < base) (v0 v1 v2 v3 v4 v5 v6 v7 : Value) :
    Answers w (set8 w6 (w.heap.size + 1) v0 v1 v2 v3 v4 v5 v6 v7) (.returned (ringOutV cap first a rl q c cl p k t d 0)) (RO.mk cap first recs curs k t d 0) := by
  subst hr hl
  exact ⟨a, q, c, p, rfl, ⟨(own_set8 ho.1 (w.heap.size + 1) hz v0 v1 v2 v3 v4 v5 v6 v7).mono (by omega), (own_set8 ho.2 (w.heap.size + 1) hz v0 v1 v2 v3 v4 v5 v6 v7).mono (by omega)⟩, below_set8 hB (w.heap.size + 1) (by omega) v0 v1 v2 v3 v4 v5 v6 v7⟩
theorem at_box {w6 : World} {b : Nat} {v0 v1 v2 v3 v4 v5 v6 v7 : Value} (hx : w6.heap[b]? = some outObj0) : (set8 w6 b v0 v1 v2 v3 v4 v5 v6 v7).heap[b]? = some (.cells #[v0, v1, v2, v3, v4, v5, v6, v7] 32 (0, 0)) := by
  have h0 : (w6.setCell ⟨b, 0, none⟩ v0).heap[b]? = some (.cells #[v0, .int .i64 0, .slice none 0 0, .slice none 0 0, .int .i64 0, .int .i64 0, .string ⟨#[]⟩, .int .i64 0] 32 (0, 0)) := heap_setCell_same w6 b 0 _ _ v0 hx
  have h1 : ((w6.setCell ⟨b, 0, none⟩ v0).setCell ⟨b, 1, none⟩ v1).heap[b]? = some (.cells #[v0, v1, .slice none 0 0, .slice none 0 0, .int .i64 0, .int .i64 0, .string ⟨#[]⟩, .int .i64 0] 32 (0, 0)) := heap_setCell_same (w6.setCell ⟨b, 0, none⟩ v0) b 1 _ _ v1 h0
  have h2 : (((w6.setCell ⟨b, 0, none⟩ v0).setCell ⟨b, 1, none⟩ v1).setCell ⟨b, 2, none⟩ v2).heap[b]? = some (.cells #[v0, v1, v2, .slice none 0 0, .int .i64 0, .int .i64 0, .string ⟨#[]⟩, .int .i64 0] 32 (0, 0)) := heap_setCell_same ((w6.setCell ⟨b, 0, none⟩ v0).setCell ⟨b, 1, none⟩ v1) b 2 _ _ v2 h1
  have h3 : ((((w6.setCell ⟨b, 0, none⟩ v0).setCell ⟨b, 1, none⟩ v1).setCell ⟨b, 2, none⟩ v2).setCell ⟨b, 3, none⟩ v3).heap[b]? = some (.cells #[v0, v1, v2, v3, .int .i64 0, .int .i64 0, .string ⟨#[]⟩, .int .i64 0] 32 (0, 0)) := heap_setCell_same (((w6.setCell ⟨b, 0, none⟩ v0).setCell ⟨b, 1, none⟩ v1).setCell ⟨b, 2, none⟩ v2) b 3 _ _ v3 h2
  have h4 : (((((w6.setCell ⟨b, 0, none⟩ v0).setCell ⟨b, 1, none⟩ v1).setCell ⟨b, 2, none⟩ v2).setCell ⟨b, 3, none⟩ v3).setCell ⟨b, 4, none⟩ v4).heap[b]? = some (.cells #[v0, v1, v2, v3, v4, .int .i64 0, .string ⟨#[]⟩, .int .i64 0] 32 (0, 0)) := heap_setCell_same ((((w6.setCell ⟨b, 0, none⟩ v0).setCell ⟨b, 1, none⟩ v1).setCell ⟨b, 2, none⟩ v2).setCell ⟨b, 3, none⟩ v3) b 4 _ _ v4 h3
  have h5 : ((((((w6.setCell ⟨b, 0, none⟩ v0).setCell ⟨b, 1, none⟩ v1).setCell ⟨b, 2, none⟩ v2).setCell ⟨b, 3, none⟩ v3).setCell ⟨b, 4, none⟩ v4).setCell ⟨b, 5, none⟩ v5).heap[b]? = some (.cells #[v0, v1, v2, v3, v4, v5, .string ⟨#[]⟩, .int .i64 0] 32 (0, 0)) := heap_setCell_same (((((w6.setCell ⟨b, 0, none⟩ v0).setCell ⟨b, 1, none⟩ v1).setCell ⟨b, 2, none⟩ v2).setCell ⟨b, 3, none⟩ v3).setCell ⟨b, 4, none⟩ v4) b 5 _ _ v5 h4
  have h6 : (((((((w6.setCell ⟨b, 0, none⟩ v0).setCell ⟨b, 1, none⟩ v1).setCell ⟨b, 2, none⟩ v2).setCell ⟨b, 3, none⟩ v3).setCell ⟨b, 4, none⟩ v4).setCell ⟨b, 5, none⟩ v5).setCell ⟨b, 6, none⟩ v6).heap[b]? = some (.cells #[v0, v1, v2, v3, v4, v5, v6, .int .i64 0] 32 (0, 0)) := heap_setCell_same ((((((w6.setCell ⟨b, 0, none⟩ v0).setCell ⟨b, 1, none⟩ v1).setCell ⟨b, 2, none⟩ v2).setCell ⟨b, 3, none⟩ v3).setCell ⟨b, 4, none⟩ v4).setCell ⟨b, 5, none⟩ v5) b 6 _ _ v6 h5
  have h7 : ((((((((w6.setCell ⟨b, 0, none⟩ v0).setCell ⟨b, 1, none⟩ v1).setCell ⟨b, 2, none⟩ v2).setCell ⟨b, 3, none⟩ v3).setCell ⟨b, 4, none⟩ v4).setCell ⟨b, 5, none⟩ v5).setCell ⟨b, 6, none⟩ v6).setCell ⟨b, 7, none⟩ v7).heap[b]? = some (.cells #[v0, v1, v2, v3, v4, v5, v6, v7] 32 (0, 0)) := heap_setCell_same (((((((w6.setCell ⟨b, 0, none⟩ v0).setCell ⟨b, 1, none⟩ v1).setCell ⟨b, 2, none⟩ v2).setCell ⟨b, 3, none⟩ v3).setCell ⟨b, 4, none⟩ v4).setCell ⟨b, 5, none⟩ v5).setCell ⟨b, 6, none⟩ v6) b 7 _ _ v7 h6
  exact h7
theorem w2_out (w : World) (cap first : Int) (ra : Option Addr) (rl rc : Nat) (ca : Option Addr) (cl cc : Nat) : (W2 w cap first ra rl rc ca cl cc).heap[w.heap.size + 1]? = some outObj0 := by
  have h := heap_alloc_new (w.alloc (ringObj cap first ra rl rc ca cl cc)) outObj0
  rw [World.size_alloc] at h
  exact h
end Go.Proofs.YtopbfjdjlgecpaaGreatDoor
