/- The law of FabricNew. -/
import Derived.Test.YtopbfjdjlgecpaaLawFabNew2
namespace Go.Proofs.Ytopbfjdjlgecpaa
open Go.RowKit
/-- A box, and two rows of its own: all of it from base on, and below T. -/
structure KN (u : World) (base O T : Nat) (o : Obj) (a : Option Addr) (n q : Nat) (b : Option Addr) (m p : Nat) (l : List (Int × Int)) (ys : List Value) : Prop where
  bo : u.heap[O]? = some o
  own : OwnNew u base a n q b m p l ys
  l1 : ∀ j, (Value.slice a n q).ownBlock = some j → j < O
  l2 : ∀ j, (Value.slice b m p).ownBlock = some j → j < O
  lo : base ≤ O
  hi : O < T
theorem KN.below {u v : World} {base O T : Nat} {o : Obj} {a : Option Addr} {n q : Nat} {b : Option Addr} {m p : Nat} {l : List (Int × Int)} {ys : List Value} (h : KN u base O T o a n q b m p l ys) (hb : Below u.heap.size u v) : KN v base O T o a n q b m p l ys :=
  ⟨fblk h.bo hb, h.own.below hb, h.l1, h.l2, h.lo, h.hi⟩
theorem nblk2 {u v : World} {i : Nat} {o : Obj} {r s : Option Nat} (h : u.heap[i]? = some o) (k : Grown2 u v r s) (hr : some i ≠ r) (hs : some i ≠ s) : v.heap[i]? = some o := (k.2.2.2.2 i (fblk_lt h) hr hs).trans h
/-- What lies ahead of a row that is marked stays. -/
theorem KN.grown {u v : World} {base O T : Nat} {o : Obj} {a : Option Addr} {n q : Nat} {b : Option Addr} {m p : Nat} {l : List (Int × Int)} {ys : List Value} {r s : Option Nat} (h : KN u base O T o a n q b m p l ys) (k : Grown2 u v r s) (hr : ∀ i, r = some i → T ≤ i) (hs : ∀ i, s = some i → T ≤ i) : KN v base O T o a n q b m p l ys := by
  have hhi := h.hi
  have hn : ∀ i, i < T → some i ≠ r ∧ some i ≠ s := fun i hi => ⟨fun e => by have := hr i e.symm; omega, fun e => by have := hs i e.symm; omega⟩
  exact ⟨nblk2 h.bo k (hn _ hhi).1 (hn _ hhi).2, ⟨k.kept h.own.1 fun i e => hn i (Nat.lt_trans (h.l1 i e) hhi), k.kept h.own.2 fun i e => hn i (Nat.lt_trans (h.l2 i e) hhi)⟩, h.l1, h.l2, h.lo, h.hi⟩
theorem KN.mark {u v : World} {base O T : Nat} {o : Obj} {a : Option Addr} {n q : Nat} {b : Option Addr} {m p : Nat} {l l' : List (Int × Int)} {ys ys' : List Value} (h : KN u base O T o a n q b m p l ys) (ho : OwnNew v base a n q b m p l' ys') (k : Grown2 u v (Value.slice a n q).ownBlock (Value.slice b m p).ownBlock) : KN v base O T o a n q b m p l' ys' :=
  ⟨nblk2 h.bo k (fun e => by have := h.l1 _ e.symm; omega) (fun e => by have := h.l2 _ e.symm; omega), ho, h.l1, h.l2, h.lo, h.hi⟩
theorem KN.mk0 {w1 : World} {b0 : Nat} {o : Obj} {a : Option Addr} {n q : Nat} {b : Option Addr} {m p : Nat} {l : List (Int × Int)} {ys : List Value} (ho : OwnNew w1 b0 a n q b m p l ys) (h : b0 ≤ w1.heap.size) : KN (w1.alloc o) b0 w1.heap.size (w1.alloc o).heap.size o a n q b m p l ys :=
  ⟨heap_alloc_new _ _, ho.below ((Below.refl _ _).alloc (Nat.le_refl _) _), fun j e => (ho.1.lt j e).2, fun j e => (ho.2.lt j e).2, h, by rw [World.size_alloc]; omega⟩
/-- How both calls end, as one. -/
theorem newRes_all {w w' : World} {e : Ending} {rings most : Int} (h : NewRes w w' e rings most) :
    ∃ a q b p, e = .returned (fabOutV a (if fabOk rings most then rings.toNat else 0) q b (if fabOk rings most then 4 else 0) p none 0 0 0 0 (if fabOk rings most then 0 else 1)) ∧
      OwnNew w' w.heap.size a (if fabOk rings most then rings.toNat else 0) q b (if fabOk rings most then 4 else 0) p (if fabOk rings most then List.replicate rings.toNat (most, 0) else []) (numCells (if fabOk rings most then [0, 0, 0, 0] else [])) ∧ Below w.heap.size w w' := by
  rcases h with ⟨hf, rfl, hb⟩ | ⟨hf, a, q, b, p, rfl, h1, h2, hb⟩
  · rw [hf]
    exact ⟨none, 0, none, 0, rfl, ⟨World.ownsRow_nil _ _ _ _, World.ownsRow_nil _ _ _ _⟩, hb⟩
  · rw [hf]
    rw [newCells_r] at h1
    exact ⟨a, q, b, p, rfl, ⟨h1, h2⟩, hb⟩
theorem fabOk_le (rings most : Int) : (if fabOk rings most then rings.toNat else 0) ≤ 4 := by
  unfold fabOk
  split
  · rename_i h
    simp only [Bool.and_eq_true, decide_eq_true_eq] at h
    omega
  · omega
set_option maxRecDepth 100000 in
set_option maxHeartbeats 2000000 in
theorem law_fabricNew (rings most : Int) (w : World) (_h1 : (Lit.int .i64 rings).wf = true) (_h2 : (Lit.int .i64 most).wf = true) :
    Calls Try.prog 3 #[.int .i64 rings, .int .i64 most] w fun e w' => e = .returned (.bool true) ∧ Below w.heap.size w w' := by
  have HSP0 : Hid (∀ w, Calls Try.prog 4 #[.int .i64 rings, .int .i64 most] w fun e w' => _) := fun w => (spec_fabricNew rings most w).mono (fun e w' h => newRes_all h)
  have HIM0 : Hid (∀ w, Calls Try.prog 5 #[.int .i64 rings, .int .i64 most] w fun e w' => _) := fun w => (impl_fabricNew rings most w).mono (fun e w' h => newRes_all h)
  have hnl := fabOk_le rings most
  have hml : (if fabOk rings most then 4 else 0) ≤ 4 := by split <;> omega
  generalize (if fabOk rings most then rings.toNat else 0) = n at HSP0 HIM0 hnl
  generalize (if fabOk rings most then 4 else 0) = m at HSP0 HIM0 hml
  generalize (if fabOk rings most then (0 : Int) else 1) = cd at HSP0 HIM0
  generalize (if fabOk rings most then List.replicate rings.toNat (most, (0 : Int)) else []) = l at HSP0 HIM0
  generalize (if fabOk rings most then [(0 : Int), 0, 0, 0] else []) = es at HSP0 HIM0
  have HSP : Hid (∀ w, Calls Try.prog 4 #[.int .i64 rings, .int .i64 most] w fun e w' => ∃ a q b p, e = .returned (fabOutV a n q b m p none 0 0 0 0 cd) ∧ OwnNew w' w.heap.size a n q b m p l (numCells es) ∧ Below w.heap.size w w') := HSP0.out
  have HIM : Hid (∀ w, Calls Try.prog 5 #[.int .i64 rings, .int .i64 most] w fun e w' => ∃ a q b p, e = .returned (fabOutV a n q b m p none 0 0 0 0 cd) ∧ OwnNew w' w.heap.size a n q b m p l (numCells es) ∧ Below w.heap.size w w') := HIM0.out
  clear HSP0 HIM0 _h1 _h2
  go_enter Try.func3, Try.ntmps3
  go_wp2_with fail
  refine (HSP.out _).mono ?_
  rintro e w1 ⟨a1, q1, b1, p1, rfl, ho1, hb1⟩
  have HA1 : Hid (KN (w1.alloc (fabOutObj a1 n q1 b1 m p1 none 0 0 0 0 cd)) w.heap.size w1.heap.size (w1.alloc (fabOutObj a1 n q1 b1 m p1 none 0 0 0 0 cd)).heap.size (fabOutObj a1 n q1 b1 m p1 none 0 0 0 0 cd) a1 n q1 b1 m p1 l (numCells es)) := KN.mk0 ho1 hb1.size
  have HB1 : Hid (Below w.heap.size w (w1.alloc (fabOutObj a1 n q1 b1 m p1 none 0 0 0 0 cd))) := below_tr hb1 ((Below.refl _ _).alloc (Nat.le_refl _) _)
  clear ho1 hb1
  go_wp2_with fail
  refine (HIM.out _).mono ?_
  rintro e w2 ⟨a2, q2, b2, p2, rfl, ho2, hb2⟩
  have HA2 : Hid (KN (w2.alloc (fabOutObj a2 n q2 b2 m p2 none 0 0 0 0 cd)) w.heap.size w1.heap.size (w1.alloc (fabOutObj a1 n q1 b1 m p1 none 0 0 0 0 cd)).heap.size (fabOutObj a1 n q1 b1 m p1 none 0 0 0 0 cd) a1 n q1 b1 m p1 l (numCells es)) := (HA1.out.below hb2).below ((Below.refl _ _).alloc (Nat.le_refl _) _)
  have HG2 : Hid (KN (w2.alloc (fabOutObj a2 n q2 b2 m p2 none 0 0 0 0 cd)) (w1.alloc (fabOutObj a1 n q1 b1 m p1 none 0 0 0 0 cd)).heap.size w2.heap.size (w2.alloc (fabOutObj a2 n q2 b2 m p2 none 0 0 0 0 cd)).heap.size (fabOutObj a2 n q2 b2 m p2 none 0 0 0 0 cd) a2 n q2 b2 m p2 l (numCells es)) := KN.mk0 ho2 hb2.size
  have HB2 : Hid (Below w.heap.size w (w2.alloc (fabOutObj a2 n q2 b2 m p2 none 0 0 0 0 cd))) := below_tr (below_tr HB1.out hb2) ((Below.refl _ _).alloc (Nat.le_refl _) _)
  clear ho2 hb2 HA1 HB1
  have cA := fun o => fcell HA2.out.bo o
  have cG := fun o => fcell HG2.out.bo o
  go_wp2_with fail
  refine (law_eqFabOut a2 n q2 b2 m p2 a1 q1 b1 p1 0 0 cd _ _ l es _ HG2.out.own HA2.out.own (by omega) (by omega)).mono ?_
  obtain ⟨T1, hT1⟩ : ∃ T1, (w1.alloc (fabOutObj a1 n q1 b1 m p1 none 0 0 0 0 cd)).heap.size = T1 := ⟨_, rfl⟩
  obtain ⟨T2, hT2⟩ : ∃ T2, (w2.alloc (fabOutObj a2 n q2 b2 m p2 none 0 0 0 0 cd)).heap.size = T2 := ⟨_, rfl⟩
  obtain ⟨O1, hO1⟩ : ∃ O1, w1.heap.size = O1 := ⟨_, rfl⟩
  obtain ⟨O2, hO2⟩ : ∃ O2, w2.heap.size = O2 := ⟨_, rfl⟩
  rw [hT1, hO1] at HA2
  rw [hT1, hT2, hO2] at HG2
  rintro e w3 ⟨rfl, hb3⟩
  have HA3 : Hid (KN w3 w.heap.size O1 T1 (fabOutObj a1 n q1 b1 m p1 none 0 0 0 0 cd) a1 n q1 b1 m p1 l (numCells es)) := HA2.out.below hb3
  have HG3 : Hid (KN w3 T1 O2 T2 (fabOutObj a2 n q2 b2 m p2 none 0 0 0 0 cd) a2 n q2 b2 m p2 l (numCells es)) := HG2.out.below hb3
  have HB3 : Hid (Below w.heap.size w w3) := below_tr HB2.out hb3
  rw [hO1, hO2]
  have HLE : Hid (w.heap.size ≤ T1) := Nat.le_trans HA3.out.lo (Nat.le_of_lt HA3.out.hi)
  clear hb3 HA2 HG2 HB2 hT1 hT2 hO1 hO2 cA cG
  have cA := fun o => fcell HA3.out.bo o
  have cG := fun o => fcell HG3.out.bo o
  go_wp2_with fail
  refine (law_markFabOut a2 n q2 b2 m p2 0 0 cd _ l _ 1 _ HG3.out.own (by omega) (by omega)).mono ?_
  rintro e w4 ⟨rfl, ho4, hg4⟩
  have HA4 : Hid (KN w4 w.heap.size O1 T1 (fabOutObj a1 n q1 b1 m p1 none 0 0 0 0 cd) a1 n q1 b1 m p1 l (numCells es)) := HA3.out.grown hg4 (fun i e => (HG3.out.own.1.lt i e).1) (fun i e => (HG3.out.own.2.lt i e).1)
  have HG4 : Hid (KN w4 T1 O2 T2 (fabOutObj a2 n q2 b2 m p2 none 0 0 0 0 cd) a2 n q2 b2 m p2 (mR 1 n l) (mNum (1 + n * 2) (numCells es) m)) := HG3.out.mark ho4 hg4
  have HB4 : Hid (Below w.heap.size w w4) := Grown2.below HB3.out HB3.out.size hg4 (fun i e => Nat.le_trans HLE.out (HG3.out.own.1.lt i e).1) (fun i e => Nat.le_trans HLE.out (HG3.out.own.2.lt i e).1)
  clear ho4 hg4 HA3 HG3 HB3 cA cG
  have cA := fun o => fcell HA4.out.bo o
  have cG := fun o => fcell HG4.out.bo o
  go_wp2_with fail
  refine (law_heldFabOut a2 n q2 b2 m p2 0 0 cd _ l _ 1 _ HG4.out.own (by omega) (by omega)).mono ?_
  rintro e w5 ⟨rfl, hb5⟩
  have HA5 : Hid (KN w5 w.heap.size O1 T1 (fabOutObj a1 n q1 b1 m p1 none 0 0 0 0 cd) a1 n q1 b1 m p1 l (numCells es)) := HA4.out.below hb5
  have HG5 : Hid (KN w5 T1 O2 T2 (fabOutObj a2 n q2 b2 m p2 none 0 0 0 0 cd) a2 n q2 b2 m p2 (mR 1 n l) (mNum (1 + n * 2) (numCells es) m)) := HG4.out.below hb5
  have HB5 : Hid (Below w.heap.size w w5) := below_tr HB4.out hb5
  have hk0 : ¬ (((1 + n * 2 + m : Nat) : Int) < 0) := by omega
  clear hb5 HA4 HG4 HB4 cA cG
  have cA := fun o => fcell HA5.out.bo o
  have cG := fun o => fcell HG5.out.bo o
  go_wp2_with fail
  refine (HIM.out _).mono ?_
  rintro e w6 ⟨a6, q6, b6, p6, rfl, ho6, hb6⟩
  have HA6 : Hid (KN (w6.alloc (fabOutObj a6 n q6 b6 m p6 none 0 0 0 0 cd)) w.heap.size O1 T1 (fabOutObj a1 n q1 b1 m p1 none 0 0 0 0 cd) a1 n q1 b1 m p1 l (numCells es)) := (HA5.out.below hb6).below ((Below.refl _ _).alloc (Nat.le_refl _) _)
  have HG6 : Hid (KN (w6.alloc (fabOutObj a6 n q6 b6 m p6 none 0 0 0 0 cd)) T1 O2 T2 (fabOutObj a2 n q2 b2 m p2 none 0 0 0 0 cd) a2 n q2 b2 m p2 (mR 1 n l) (mNum (1 + n * 2) (numCells es) m)) := (HG5.out.below hb6).below ((Below.refl _ _).alloc (Nat.le_refl _) _)
  have HO6 : Hid (OwnNew (w6.alloc (fabOutObj a6 n q6 b6 m p6 none 0 0 0 0 cd)) w5.heap.size a6 n q6 b6 m p6 l (numCells es)) := ho6.below ((Below.refl _ _).alloc (Nat.le_refl _) _)
  have HB6 : Hid (Below w.heap.size w (w6.alloc (fabOutObj a6 n q6 b6 m p6 none 0 0 0 0 cd))) := below_tr (below_tr HB5.out hb6) ((Below.refl _ _).alloc (Nat.le_refl _) _)
  clear ho6 hb6 HA5 HG5 HB5 cA cG
  have cA := fun o => fcell HA6.out.bo o
  have cG := fun o => fcell HG6.out.bo o
  go_wp2_with fail
  refine (law_eqFabOut a6 n q6 b6 m p6 a1 q1 b1 p1 0 0 cd _ _ l es _ HO6.out HA6.out.own (by omega) (by omega)).mono ?_
  rintro e w7 ⟨rfl, hb7⟩
  have HG7 : Hid (KN w7 T1 O2 T2 (fabOutObj a2 n q2 b2 m p2 none 0 0 0 0 cd) a2 n q2 b2 m p2 (mR 1 n l) (mNum (1 + n * 2) (numCells es) m)) := HG6.out.below hb7
  have HB7 : Hid (Below w.heap.size w w7) := below_tr HB6.out hb7
  clear hb7 HA6 HG6 HB6 HO6 cA cG
  have cG := fun o => fcell HG7.out.bo o
  go_wp2_with fail
  refine (law_heldFabOut a2 n q2 b2 m p2 0 0 cd _ l _ 1 _ HG7.out.own (by omega) (by omega)).mono ?_
  rintro e w8 ⟨rfl, hb8⟩
  have HB8 : Hid (Below w.heap.size w w8) := below_tr HB7.out hb8
  clear hb8 HG7 cG
  go_wp2
  go_ret
  exact ⟨rfl, HB8.out⟩
end Go.Proofs.Ytopbfjdjlgecpaa
