/- The laws' own helpers on new fabrics, as wholes. -/
import Derived.Test.YtopbfjdjlgecpaaLawFabNew1
namespace Go.Proofs.Ytopbfjdjlgecpaa
open Go.RowKit
abbrev fabV (ra : Option Addr) (rl rc : Nat) (ea : Option Addr) (el ec : Nat) (ta : Option Addr) (tl tc : Nat) (now : Int) : Value := .agg #[.slice ra rl rc, .slice ea el ec, .slice ta tl tc, .int .i64 now]
/-- Two rows of its own: new rings, and numbers. -/
def OwnNew (w : World) (base : Nat) (a : Option Addr) (n q : Nat) (b : Option Addr) (m p : Nat) (l : List (Int × Int)) (ys : List Value) : Prop :=
  w.ownsRow base 36 4 (.slice a n q) n (rCells l) ∧ w.ownsRow base 2 1 (.slice b m p) m ys
theorem OwnNew.below {w w' : World} {base : Nat} {a : Option Addr} {n q : Nat} {b : Option Addr} {m p : Nat} {l : List (Int × Int)} {ys : List Value} (h : OwnNew w base a n q b m p l ys) (hb : Below w.heap.size w w') : OwnNew w' base a n q b m p l ys := ⟨fown_below h.1 hb, fown_below h.2 hb⟩
theorem new_apart {w : World} {base base' n n' : Nat} {v v' : Value} {xs ys : List Value} (h : w.ownsRow base 36 4 v n xs) (h' : w.ownsRow base' 2 1 v' n' ys) : v.ownBlock = none ∨ v.ownBlock ≠ v'.ownBlock := by
  rcases h.2 with ⟨rfl, _⟩ | ⟨g, cap, cur, rfl, hb, hg, rest⟩
  · exact .inl rfl
  · rcases h'.2 with ⟨rfl, _⟩ | ⟨g', cap', cur', rfl, hb', hg', rest'⟩
    · exact .inr (by simp [Value.ownBlock])
    · refine .inr fun e => ?_
      simp [Value.ownBlock] at e
      subst e
      rw [hg] at hg'
      simp at hg'
theorem new_apart' {w : World} {base base' n n' : Nat} {v v' : Value} {xs ys : List Value} (h : w.ownsRow base 36 4 v n xs) (h' : w.ownsRow base' 2 1 v' n' ys) : v'.ownBlock = none ∨ v'.ownBlock ≠ v.ownBlock := by
  rcases new_apart h h' with h1 | h1
  · cases h2 : v'.ownBlock with
    | none => exact .inl rfl
    | some i => exact .inr (by rw [h1]; simp)
  · exact .inr fun e => h1 e.symm
theorem two_new (w : World) (o o' : Obj) : ((w.alloc o).alloc o').heap[w.heap.size]? = some o ∧ ((w.alloc o).alloc o').heap[w.heap.size + 1]? = some o' := by
  refine ⟨(Below.heap_alloc _ _ _ (by simp)).trans (heap_alloc_new _ _), ?_⟩
  have h := heap_alloc_new (w.alloc o) o'
  rwa [World.size_alloc] at h
set_option maxHeartbeats 2000000 in
theorem law_eqFab (a : Option Addr) (n q : Nat) (b : Option Addr) (m p : Nat) (a' : Option Addr) (q' : Nat) (b' : Option Addr) (p' : Nat) (now : Int) (base base' : Nat) (l : List (Int × Int)) (es : List Int) (w : World) (h : OwnNew w base a n q b m p l (numCells es)) (h' : OwnNew w base' a' n q' b' m p' l (numCells es)) (hn : n ≤ 2097152) (hm : m ≤ 2097152) :
    Calls Try.prog 14 #[fabV a n q b m p none 0 0 now, fabV a' n q' b' m p' none 0 0 now] w fun e w' => e = .returned (.bool true) ∧ Below w.heap.size w w' := by
  have HA : Hid (OwnNew w base a n q b m p l (numCells es)) := h
  have HB : Hid (OwnNew w base' a' n q' b' m p' l (numCells es)) := h'
  have hne : (now != now) = false := by simp
  clear h h'
  have HW0 : Hid (Below w.heap.size w ((w.alloc (fabObj a n q b m p none 0 0 now)).alloc (fabObj a' n q' b' m p' none 0 0 now))) := ((Below.refl _ _).alloc (Nat.le_refl _) _).alloc (by simp) _
  have HT : Hid _ := two_new w (fabObj a n q b m p none 0 0 now) (fabObj a' n q' b' m p' none 0 0 now)
  go_enter Try.func14, Try.ntmps14
  go_wp2_with fail
  refine (law_eqRings a a' n q q' base base' l _ (fown_below HA.out.1 HW0.out) (fown_below HB.out.1 HW0.out) hn).mono ?_
  rintro e w1 ⟨rfl, hb1⟩
  have HW1 : Hid (Below w.heap.size w w1) := below_tr HW0.out hb1
  have K0 : Hid _ := fblk HT.out.1 hb1
  have K1 : Hid _ := fblk HT.out.2 hb1
  have c0 := fun o => fcell K0.out o
  have c1 := fun o => fcell K1.out o
  clear hb1 HT HW0
  go_wp2_with fail
  refine (law_eqNums b b' m p p' es _ (own_nums (fown_below HA.out.2 HW1.out)) (own_nums (fown_below HB.out.2 HW1.out)) hm).mono ?_
  rintro e w2 ⟨rfl, hb2⟩
  have HW2 : Hid (Below w.heap.size w w2) := below_tr HW1.out hb2
  have d0 := fun o => fcell (fblk K0.out hb2) o
  have d1 := fun o => fcell (fblk K1.out hb2) o
  clear hb2 HW1 K0 K1 c0 c1
  go_wp2_with fail
  refine (nil_eqTxns _).mono ?_
  rintro e w3 ⟨rfl, hw3⟩
  rw [hw3]
  clear hw3 w3
  go_wp2
  go_ret
  exact ⟨rfl, HW2.out⟩
set_option maxHeartbeats 2000000 in
theorem law_eqFabOut (a : Option Addr) (n q : Nat) (b : Option Addr) (m p : Nat) (a' : Option Addr) (q' : Nat) (b' : Option Addr) (p' : Nat) (now N c : Int) (base base' : Nat) (l : List (Int × Int)) (es : List Int) (w : World) (h : OwnNew w base a n q b m p l (numCells es)) (h' : OwnNew w base' a' n q' b' m p' l (numCells es)) (hn : n ≤ 2097152) (hm : m ≤ 2097152) :
    Calls Try.prog 6 #[fabOutV a n q b m p none 0 0 now N c, fabOutV a' n q' b' m p' none 0 0 now N c] w fun e w' => e = .returned (.bool true) ∧ Below w.heap.size w w' := by
  have HA : Hid (OwnNew w base a n q b m p l (numCells es)) := h
  have HB : Hid (OwnNew w base' a' n q' b' m p' l (numCells es)) := h'
  have hne : (N != N) = false := by simp
  have hnc : (c != c) = false := by simp
  clear h h'
  have HW0 : Hid (Below w.heap.size w ((w.alloc (fabOutObj a n q b m p none 0 0 now N c)).alloc (fabOutObj a' n q' b' m p' none 0 0 now N c))) := ((Below.refl _ _).alloc (Nat.le_refl _) _).alloc (by simp) _
  have HT : Hid _ := two_new w (fabOutObj a n q b m p none 0 0 now N c) (fabOutObj a' n q' b' m p' none 0 0 now N c)
  go_enter Try.func6, Try.ntmps6
  go_wp2_with fail
  refine (law_eqFab a n q b m p a' q' b' p' now base base' l es _ (HA.out.below HW0.out) (HB.out.below HW0.out) hn hm).mono ?_
  rintro e w1 ⟨rfl, hb1⟩
  have HW1 : Hid (Below w.heap.size w w1) := below_tr HW0.out hb1
  have c0 := fun o => fcell (fblk HT.out.1 hb1) o
  have c1 := fun o => fcell (fblk HT.out.2 hb1) o
  clear hb1 HT HW0
  go_wp2
  go_ret
  exact ⟨rfl, HW1.out⟩
set_option maxHeartbeats 2000000 in
theorem law_markFab (a : Option Addr) (n q : Nat) (b : Option Addr) (m p : Nat) (now : Int) (base : Nat) (l : List (Int × Int)) (ys : List Value) (K : Nat) (w : World) (h : OwnNew w base a n q b m p l ys) (hK : 0 < K) (hm : K + n * 2 + m ≤ 100000000) :
    Calls Try.prog 15 #[fabV a n q b m p none 0 0 now, .int .i64 K] w fun e w' => e = .returned (.int .i64 ((K + n * 2 + m : Nat) : Int)) ∧ OwnNew w' base a n q b m p (mR K n l) (mNum (K + n * 2) ys m) ∧ Grown2 w w' (Value.slice a n q).ownBlock (Value.slice b m p).ownBlock := by
  have HA : Hid (OwnNew w base a n q b m p l ys) := h
  have hl1 := h.1.lt
  have hl2 := h.2.lt
  clear h
  go_enter Try.func15, Try.ntmps15
  go_wp2_with fail
  refine (law_markRings a n q base l K _ (HA.out.1.alloc _) hK (by omega)).mono ?_
  rintro e w1 ⟨rfl, ho1, hg1⟩
  have hk1 : w1.heap[w.heap.size]? = some (fabObj a n q b m p none 0 0 now) := (hg1.block _ (by simp) (fun e => by have := hl1 _ e.symm; omega)).trans (heap_alloc_new _ _)
  have c1 := fun o => fcell hk1 o
  have K1 : Hid _ := hk1
  have HY1 : Hid (w1.ownsRow base 2 1 (.slice b m p) m ys) := (HA.out.2.alloc _).kept hg1 (new_apart' HA.out.1 HA.out.2)
  have HX1 : Hid (w1.ownsRow base 36 4 (.slice a n q) n (rCells (mR K n l))) := ho1
  have HG1 : Hid (Grown2 w w1 (Value.slice a n q).ownBlock (Value.slice b m p).ownBlock) := (Grown2.ofBelow ((Below.refl _ _).alloc (Nat.le_refl _) _) _ _).trans (Grown2.left hg1 _)
  clear ho1 hg1 hl1 hk1
  go_wp2_with fail
  refine (law_markNums b m p base ys (K + n * 2) _ HY1.out (by omega) (by omega)).mono ?_
  rintro e w2 ⟨rfl, ho2, hg2⟩
  have hk2 : w2.heap[w.heap.size]? = some (fabObj a n q b m p none 0 0 now) := (hg2.block _ (fblk_lt K1.out) (fun e => by have := hl2 _ e.symm; omega)).trans K1.out
  have c2 := fun o => fcell hk2 o
  have HX2 : Hid (w2.ownsRow base 36 4 (.slice a n q) n (rCells (mR K n l))) := HX1.out.kept hg2 (new_apart HX1.out HY1.out)
  have HY2 : Hid (w2.ownsRow base 2 1 (.slice b m p) m (mNum (K + n * 2) ys m)) := ho2
  have HG2 : Hid (Grown2 w w2 (Value.slice a n q).ownBlock (Value.slice b m p).ownBlock) := HG1.out.trans (Grown2.right hg2 _)
  clear ho2 hg2 hl2 hk2 c1 K1
  go_wp2_with fail
  refine (nil_markTxns (K + n * 2 + m) _).mono ?_
  rintro e w3 ⟨rfl, hw3⟩
  rw [hw3]
  clear hw3 w3
  go_wp2
  go_ret
  exact ⟨ret_int (by omega), ⟨HX2.out, HY2.out⟩, HG2.out⟩
set_option maxHeartbeats 2000000 in
theorem law_markFabOut (a : Option Addr) (n q : Nat) (b : Option Addr) (m p : Nat) (now N c : Int) (base : Nat) (l : List (Int × Int)) (ys : List Value) (K : Nat) (w : World) (h : OwnNew w base a n q b m p l ys) (hK : 0 < K) (hm : K + n * 2 + m ≤ 100000000) :
    Calls Try.prog 7 #[fabOutV a n q b m p none 0 0 now N c, .int .i64 K] w fun e w' => e = .returned (.int .i64 ((K + n * 2 + m : Nat) : Int)) ∧ OwnNew w' base a n q b m p (mR K n l) (mNum (K + n * 2) ys m) ∧ Grown2 w w' (Value.slice a n q).ownBlock (Value.slice b m p).ownBlock := by
  have HA : Hid (OwnNew w base a n q b m p l ys) := h
  clear h
  go_enter Try.func7, Try.ntmps7
  go_wp2_with fail
  refine (law_markFab a n q b m p now base l ys K _ ⟨HA.out.1.alloc _, HA.out.2.alloc _⟩ hK hm).mono ?_
  rintro e w1 ⟨rfl, ho1, hg1⟩
  have HO1 : Hid _ := ho1
  have HG1 : Hid (Grown2 w w1 (Value.slice a n q).ownBlock (Value.slice b m p).ownBlock) := (Grown2.ofBelow ((Below.refl _ _).alloc (Nat.le_refl _) _) _ _).trans hg1
  clear ho1 hg1
  go_wp2
  go_ret
  exact ⟨ret_int (by omega), HO1.out, HG1.out⟩
set_option maxHeartbeats 2000000 in
theorem law_heldFab (a : Option Addr) (n q : Nat) (b : Option Addr) (m p : Nat) (now : Int) (base : Nat) (l : List (Int × Int)) (ys : List Value) (K : Nat) (w : World) (h : OwnNew w base a n q b m p (mR K n l) (mNum (K + n * 2) ys m)) (hK : 0 < K) (hm : K + n * 2 + m ≤ 100000000) :
    Calls Try.prog 16 #[fabV a n q b m p none 0 0 now, .int .i64 K] w fun e w' => e = .returned (.int .i64 ((K + n * 2 + m : Nat) : Int)) ∧ Below w.heap.size w w' := by
  have hy : ys.length = m := by have := h.2.1; rw [mNum_length] at this; omega
  have HA : Hid (OwnNew w base a n q b m p (mR K n l) (mNum (K + n * 2) ys m)) := h
  have HY : Hid _ := hy
  clear h hy
  go_enter Try.func16, Try.ntmps16
  go_wp2_with fail
  refine (law_heldRings a n q base l K _ (HA.out.1.alloc _) hK (by omega)).mono ?_
  rintro e w1 ⟨rfl, hw1⟩
  rw [hw1]
  clear hw1 w1
  go_wp2_with fail
  refine (law_heldNums b m p base ys (K + n * 2) _ (HA.out.2.alloc _) HY.out (by omega) (by omega)).mono ?_
  rintro e w2 ⟨rfl, hb2⟩
  have c2 := fun o => fcell (fblk (heap_alloc_new _ _) hb2) o
  have HW2 : Hid (Below w.heap.size w w2) := below_tr ((Below.refl _ _).alloc (Nat.le_refl _) _) hb2
  clear hb2
  go_wp2_with fail
  refine (nil_heldTxns (K + n * 2 + m) _).mono ?_
  rintro e w3 ⟨rfl, hw3⟩
  rw [hw3]
  clear hw3 w3
  go_wp2
  go_ret
  exact ⟨ret_int (by omega), HW2.out⟩
set_option maxHeartbeats 2000000 in
theorem law_heldFabOut (a : Option Addr) (n q : Nat) (b : Option Addr) (m p : Nat) (now N c : Int) (base : Nat) (l : List (Int × Int)) (ys : List Value) (K : Nat) (w : World) (h : OwnNew w base a n q b m p (mR K n l) (mNum (K + n * 2) ys m)) (hK : 0 < K) (hm : K + n * 2 + m ≤ 100000000) :
    Calls Try.prog 8 #[fabOutV a n q b m p none 0 0 now N c, .int .i64 K] w fun e w' => e = .returned (.int .i64 ((K + n * 2 + m : Nat) : Int)) ∧ Below w.heap.size w w' := by
  have HA : Hid (OwnNew w base a n q b m p (mR K n l) (mNum (K + n * 2) ys m)) := h
  clear h
  go_enter Try.func8, Try.ntmps8
  go_wp2_with fail
  refine (law_heldFab a n q b m p now base l ys K _ ⟨HA.out.1.alloc _, HA.out.2.alloc _⟩ hK hm).mono ?_
  rintro e w1 ⟨rfl, hb1⟩
  have HW1 : Hid (Below w.heap.size w w1) := below_tr ((Below.refl _ _).alloc (Nat.le_refl _) _) hb1
  clear hb1
  go_wp2
  go_ret
  exact ⟨ret_int (by omega), HW1.out⟩
end Go.Proofs.Ytopbfjdjlgecpaa
