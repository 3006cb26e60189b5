import Derived.Test.YtahccighonddaaaGreatDoorFabStart4
import Derived.Test.YtahccighonddaaaGreatDoorSpecMove
import Derived.Stop.IfaceNil
import Derived.Test.YtahccighonddaaaGreatDoorFabD
import Derived.Test.YtahccighonddaaaGreatDoorSpecHear2
import Derived.Deep.RegionLaw
import Derived.Deep.DrawnRows
import Derived.Laws.LoneSync
import Derived.Deep.RegionHeld3
import Derived.Test.YtahccighonddaaaGreatDoorAppendMore
import Derived.Deep.QuietTactic
import Derived.Test.YtahccighonddaaaGreatDoorTxnWithout
import Derived.Test.YtahccighonddaaaGreatDoorFabEnds
namespace Go.Proofs.YtahccighonddaaaGreatDoor
open Go.RowKit Go.Maps
attribute [local go_sem ↓] Go.wp_at_zero Go.wp_at_succ
set_option linter.unusedSimpArgs false
set_option linter.unusedVariables false
theorem right_sizes {rs : List RD} {es : List Int} {ts : List TD} {now : Int} (h : fabRightB rs es ts now = true) : 1 ≤ rs.length ∧ rs.length ≤ 4 ∧ es.length = 4 ∧ ts.length ≤ 12 := by
  simp only [fabRightB,Bool.and_eq_true] at h
  exact of_decide_eq_true h.1.1.1.1
section
variable {lo : Nat} {B M : Nat} {ta : Option Addr} {tl tc : Nat} {ra : Option Addr} {rl rc : Nat} {ea : Option Addr} {el ec : Nat} {now began puts : Int} {ts : List TD} {rs : List RD} {es : List Int} {m : Nat} {D : DataW Unit}
end
variable (ra : Option Addr) (rl rc : Nat) (ea : Option Addr) (el ec : Nat) (ta : Option Addr) (tl tc : Nat) (now : Int)
end Go.Proofs.YtahccighonddaaaGreatDoor
namespace Go.Proofs.YtahccighonddaaaGreatDoor
open Go.RowKit Go.Maps
theorem pack_set {α : Type} (f : α → List Value) (s : Nat) (hs : ∀ x,(f x).length = s) (l : List α) (k : Nat) (hk : k < l.length) (x : α) (j : Nat) : ((l.set k x).flatMap f)[j]? = if k * s ≤ j ∧ j < k * s + s then (f x)[j - k * s]? else (l.flatMap f)[j]? := by
  induction l generalizing k j with
  | nil => simp at hk
  | cons y l ih =>
    cases k with
    | zero =>
      simp only [List.set_cons_zero,List.flatMap_cons,Nat.zero_mul,Nat.zero_le,true_and,Nat.zero_add,Nat.sub_zero]
      by_cases h : j < s
      · rw [if_pos h,List.getElem?_append_left (by rw [hs]; exact h)]
      · rw [if_neg h,List.getElem?_append_right (by rw [hs]; omega),List.getElem?_append_right (by rw [hs]; omega),hs,hs]
    | succ k =>
      simp only [List.set_cons_succ,List.flatMap_cons]
      have hk' : k < l.length := by simpa using hk
      have e : (k + 1) * s = k * s + s := Nat.succ_mul k s
      by_cases h : j < s
      · rw [List.getElem?_append_left (by rw [hs]; exact h),List.getElem?_append_left (by rw [hs]; exact h),if_neg (by omega)]
      · rw [List.getElem?_append_right (by rw [hs]; omega),List.getElem?_append_right (by rw [hs]; omega),hs,ih k hk' (j - s)]
        by_cases hc : k * s ≤ j - s ∧ j - s < k * s + s
        · rw [if_pos hc,if_pos (by omega),show j - s - k * s = j - (k + 1) * s by omega]
        · rw [if_neg hc,if_neg (by omega)]
section
variable {lo : Nat} {u v : World} {B M tb : Nat} {ta : Option Addr} {tl tc : Nat} {ra : Option Addr} {rl rc : Nat} {ea : Option Addr} {el ec : Nat} {now began puts : Int} {ts : List TD} {rs : List RD} {es : List Int} {m : Nat} {D : DataW Unit}
end
end Go.Proofs.YtahccighonddaaaGreatDoor
namespace Go.Proofs.YtahccighonddaaaGreatDoor
open Go.RowKit
set_option linter.unusedSimpArgs false
set_option linter.unusedVariables false
structure Fr (S : Nat → Prop) (w w' : World) : Prop where
  os : w'.os = w.os
  tape : w'.tape = w.tape
  output : w'.output = w.output
  size : w.heap.size ≤ w'.heap.size
  block : ∀ k,k < w.heap.size → ¬ S k → w'.heap[k]? = w.heap[k]?
theorem Fr.refl (S : Nat → Prop) (w : World) : Fr S w w := ⟨rfl,rfl,rfl,Nat.le_refl _,fun _ _ _ => rfl⟩
theorem Fr.trans {S : Nat → Prop} {u v w : World} (h : Fr S u v) (k : Fr S v w) : Fr S u w :=
  ⟨k.os.trans h.os,k.tape.trans h.tape,k.output.trans h.output,Nat.le_trans h.size k.size,fun i hi hs => (k.block i (Nat.lt_of_lt_of_le hi h.size) hs).trans (h.block i hi hs)⟩
theorem Fr.ofGrown {S : Nat → Prop} {w w' : World} {row : Option Nat} (h : w.grownBy w' row) (hr : ∀ X,row = some X → S X) : Fr S w w' :=
  ⟨h.os,h.tape,h.output,h.size,fun k hk hs => h.block k hk (fun e => hs (hr k e.symm))⟩
theorem Fr.ofBelow {w w' : World} (h : Below w.heap.size w w') (S : Nat → Prop) : Fr S w w' := ⟨h.os,h.tape,h.output,h.size,fun k hk _ => h.block k hk⟩
theorem Fr.mono {S T : Nat → Prop} {w w' : World} (h : Fr S w w') (hs : ∀ X,S X → T X) : Fr T w w' := ⟨h.os,h.tape,h.output,h.size,fun k hk ht => h.block k hk (fun e => ht (hs k e))⟩
theorem Fr.below {S : Nat → Prop} {N : Nat} {w u v : World} (h : Below N w u) (hN : N ≤ u.heap.size) (k : Fr S u v) (hs : ∀ X,S X → N ≤ X) : Below N w v :=
  ⟨k.os.trans h.os,k.tape.trans h.tape,k.output.trans h.output,Nat.le_trans h.size k.size,fun i hi => (k.block i (Nat.lt_of_lt_of_le hi hN) (fun e => by have := hs i e; omega)).trans (h.block i hi)⟩
theorem Fr.own {S : Nat → Prop} {w w' : World} (h : Fr S w w') {base e size n c : Nat} {a : Option Addr} {xs : List Value} (ho : w.ownsRow base e size (.slice a n c) n xs) (hs : ∀ X,blk? a = some X → ¬ S X) : w'.ownsRow base e size (.slice a n c) n xs := by
  refine ⟨ho.1,?_⟩
  rcases ho.2 with hn | ⟨g,cap,cur,hv,hb,hg,rest⟩
  · exact .inl hn
  · have hX : blk? a = some g := by
      simp only [Value.slice.injEq] at hv
      rw [hv.1]; rfl
    exact .inr ⟨g,cap,cur,hv,hb,(h.block g (Array.getElem?_eq_some_iff.1 hg).1 (hs g hX)).trans hg,rest⟩
theorem Fr.blk {S : Nat → Prop} {w w' : World} (h : Fr S w w') {X : Nat} {o : Obj} (ho : w.heap[X]? = some o) (hs : ¬ S X) : w'.heap[X]? = some o := (h.block X (Array.getElem?_eq_some_iff.1 ho).1 hs).trans ho
structure RX where
  c : Int
  f : Int
  ra : Option Addr
  rl : Nat
  rc : Nat
  ca : Option Addr
  cl : Nat
  cc : Nat
  xs : List Value
  ys : List Value
structure TXN where
  p : Int
  e : Int
  s : Int
  u : Int
  ra : Option Addr
  rl : Nat
  rc : Nat
  la : Option Addr
  ll : Nat
  lc : Nat
  xs : List Value
  ys : List Value
def RX.cells (x : RX) : List Value := [.int .i64 x.c,.int .i64 x.f,.slice x.ra x.rl x.rc,.slice x.ca x.cl x.cc]
def TXN.cells (t : TXN) : List Value := [.int .i64 t.p,.int .i64 t.e,.int .i64 t.s,.int .i64 t.u,.slice t.ra t.rl t.rc,.slice t.la t.ll t.lc]
def RX.own (x : RX) (w : World) (base : Nat) : Prop := OwnRing w base x.ra x.rl x.rc x.ca x.cl x.cc x.xs x.ys
def TXN.own (t : TXN) (w : World) (base : Nat) : Prop := OwnTxn w base t.ra t.rl t.rc t.la t.ll t.lc t.xs t.ys
def RX.blks (r : RX) : List Nat := (blk? r.ra).toList ++ (blk? r.ca).toList
def TXN.blks (t : TXN) : List Nat := (blk? t.ra).toList ++ (blk? t.la).toList
def RX.cnt (x : RX) : Nat := 2 + x.rl + x.cl * 2
def TXN.cnt (t : TXN) : Nat := 4 + t.rl + t.ll
def RX.mark (K : Nat) (x : RX) : RX := ⟨(K : Nat),(K + 1 : Nat),x.ra,x.rl,x.rc,x.ca,x.cl,x.cc,mStr (K + 2) x.xs x.rl,mCur (K + 2 + x.rl) x.ys (x.cl * 2)⟩
def TXN.mark (K : Nat) (t : TXN) : TXN := ⟨(K : Nat),(K + 1 : Nat),(K + 2 : Nat),(K + 3 : Nat),t.ra,t.rl,t.rc,t.la,t.ll,t.lc,mNum (K + 4) t.xs t.rl,mNum (K + 4 + t.rl) t.ys t.ll⟩
def RD.x (r : RD) : RX := ⟨r.cap,r.first,r.ra,r.rl,r.rc,r.ca,r.cl,r.cc,r.recs.map Value.string,curCells r.curs⟩
def TD.x (t : TD) : TXN := ⟨t.p,t.e,t.s,t.u,t.ra,t.rl,t.rc,t.la,t.ll,t.lc,numCells t.rs,numCells t.ls⟩
def mTo {α : Type} (f : Nat → α → α) (c : α → Nat) (K : Nat) (l : List α) (k : Nat) : List α := l.mapIdx fun j x => if j < k then f (K + szSum c (l.take j)) x else x
section
variable {α : Type} {f : Nat → α → α} {c : α → Nat} {K : Nat} {l : List α}
theorem mTo_zero : mTo f c K l 0 = l := by
  apply List.ext_getElem?
  intro j
  simp [mTo]
theorem mTo_length (k : Nat) : (mTo f c K l k).length = l.length := by simp [mTo]
theorem mTo_get (k j : Nat) : (mTo f c K l k)[j]? = (l[j]?).map fun x => if j < k then f (K + szSum c (l.take j)) x else x := by simp [mTo]
theorem mTo_set {k : Nat} {x : α} (h : l[k]? = some x) : (mTo f c K l k).set k (f (K + szSum c (l.take k)) x) = mTo f c K l (k + 1) := by
  have hk := (List.getElem?_eq_some_iff.1 h).1
  apply List.ext_getElem?
  intro j
  by_cases hj : k = j
  · subst hj
    rw [List.getElem?_set_self (by rw [mTo_length]; exact hk),mTo_get,h]
    simp
  · rw [List.getElem?_set_ne hj,mTo_get,mTo_get]
    cases l[j]? with
    | none => rfl
    | some y =>
      by_cases h1 : j < k
      · have h2 : j < k + 1 := by omega
        simp [h1,h2]
      · have h2 : ¬ j < k + 1 := by omega
        simp [h1,h2]
theorem mTo_at {k : Nat} {x : α} (h : l[k]? = some x) : (mTo f c K l k)[k]? = some x := by rw [mTo_get,h]; simp
theorem mTo_all {k n : Nat} {x : α} (h : l[k]? = some x) (hn : k < n) : (mTo f c K l n)[k]? = some (f (K + szSum c (l.take k)) x) := by rw [mTo_get,h]; simp [hn]
theorem mTo_map {β : Type} (g : α → β) (hg : ∀ K x,g (f K x) = g x) (k : Nat) : (mTo f c K l k).map g = l.map g := by
  apply List.ext_getElem?
  intro j
  rw [List.getElem?_map,List.getElem?_map,mTo_get]
  cases l[j]? with
  | none => rfl
  | some y =>
    by_cases h1 : j < k
    · simp [h1,hg]
    · simp [h1]
theorem flat_map {β : Type} (g : α → List β) (m : List α) (h : m.map g = l.map g) : m.flatMap g = l.flatMap g := by rw [List.flatMap_def,List.flatMap_def,h]
end
theorem flat_mem {α β : Type} {g : α → List β} {l : List α} {j : Nat} {x : α} (h : l[j]? = some x) {X : β} (hX : X ∈ g x) : X ∈ l.flatMap g := List.mem_flatMap.2 ⟨x,List.mem_of_getElem? h,hX⟩
theorem flat_apart {α β : Type} {g : α → List β} {l : List α} (hn : (l.flatMap g).Nodup) {i j : Nat} {x y : α} (hx : l[i]? = some x) (hy : l[j]? = some y) (hij : i ≠ j) {X : β} (h1 : X ∈ g x) (h2 : X ∈ g y) : False := by
  induction l generalizing i j with
  | nil => simp at hx
  | cons z l ih =>
    rw [List.flatMap_cons] at hn
    obtain ⟨n1,n2,n3⟩ := List.nodup_append.1 hn
    cases i with
    | zero =>
      cases j with
      | zero => exact hij rfl
      | succ j =>
        simp only [List.getElem?_cons_zero,Option.some.injEq,List.getElem?_cons_succ] at hx hy
        subst hx
        exact n3 X h1 X (flat_mem hy h2) rfl
    | succ i =>
      cases j with
      | zero =>
        simp only [List.getElem?_cons_zero,Option.some.injEq,List.getElem?_cons_succ] at hx hy
        subst hy
        exact n3 X h2 X (flat_mem hx h1) rfl
      | succ j =>
        simp only [List.getElem?_cons_succ] at hx hy
        exact ih n2 hx hy (fun e => hij (by omega))
section
variable {w w' : World} {base : Nat}
theorem RX.own.lt {r : RX} {X : Nat} (h : r.own w base) (hX : X ∈ r.blks) : base ≤ X ∧ X < w.heap.size := by
  simp only [RX.blks,List.mem_append,Option.mem_toList] at hX
  rcases hX with hX | hX
  · exact own_blk_lt h.1 hX
  · exact own_blk_lt h.2 hX
theorem TXN.own.lt {t : TXN} {X : Nat} (h : t.own w base) (hX : X ∈ t.blks) : base ≤ X ∧ X < w.heap.size := by
  simp only [TXN.blks,List.mem_append,Option.mem_toList] at hX
  rcases hX with hX | hX
  · exact own_blk_lt h.1 hX
  · exact own_blk_lt h.2.1 hX
theorem RX.own.fr {r : RX} {S : Nat → Prop} (h : r.own w base) (hf : Fr S w w') (hs : ∀ X ∈ r.blks,¬ S X) : r.own w' base :=
  ⟨hf.own h.1 fun X hX => hs X (by simp [RX.blks,hX]),hf.own h.2 fun X hX => hs X (by simp [RX.blks,hX])⟩
theorem TXN.own.fr {t : TXN} {S : Nat → Prop} (h : t.own w base) (hf : Fr S w w') (hs : ∀ X ∈ t.blks,¬ S X) : t.own w' base :=
  ⟨hf.own h.1 fun X hX => hs X (by simp [TXN.blks,hX]),hf.own h.2.1 fun X hX => hs X (by simp [TXN.blks,hX]),h.2.2⟩
theorem RX.own.not {r : RX} {B : Nat} {C : Array Value} {T : TypeId} (h : r.own w base) (hB : w.heap[B]? = some (.cells C T (0,0))) (h1 : 9 ≠ T) (h2 : 96 ≠ T) : B ∉ r.blks := fun hX => by
  simp only [RX.blks,List.mem_append,Option.mem_toList] at hX
  rcases hX with hX | hX
  · exact own_ne h.1 hB h1 hX
  · exact own_ne h.2 hB h2 hX
theorem TXN.own.not {t : TXN} {B : Nat} {C : Array Value} {T : TypeId} (h : t.own w base) (hB : w.heap[B]? = some (.cells C T (0,0))) (h1 : 2 ≠ T) : B ∉ t.blks := fun hX => by
  simp only [TXN.blks,List.mem_append,Option.mem_toList] at hX
  rcases hX with hX | hX
  · exact own_ne h.1 hB h1 hX
  · exact own_ne h.2.1 hB h1 hX
end
def rxCells (l : List RX) : List Value := l.flatMap RX.cells
def txCells (l : List TXN) : List Value := l.flatMap TXN.cells
theorem rxCells_length (l : List RX) : (rxCells l).length = l.length * 4 := pack_length _ 4 (fun _ => rfl) l
theorem txCells_length (l : List TXN) : (txCells l).length = l.length * 6 := pack_length _ 6 (fun _ => rfl) l
theorem rxCells_at {l : List RX} {i : Nat} {x : RX} (h : l[i]? = some x) (j : Nat) (hj : j < 4) : (rxCells l)[i * 4 + j]? = x.cells[j]? := by
  obtain ⟨hi,e⟩ := List.getElem?_eq_some_iff.1 h
  rw [← e]
  exact pack_at _ 4 (fun _ => rfl) l i j hi hj
theorem txCells_at {l : List TXN} {i : Nat} {x : TXN} (h : l[i]? = some x) (j : Nat) (hj : j < 6) : (txCells l)[i * 6 + j]? = x.cells[j]? := by
  obtain ⟨hi,e⟩ := List.getElem?_eq_some_iff.1 h
  rw [← e]
  exact pack_at _ 6 (fun _ => rfl) l i j hi hj
theorem rxCells_set {l : List RX} {k : Nat} {x y : RX} (h : l[k]? = some x) (h1 : y.ra = x.ra ∧ y.rl = x.rl ∧ y.rc = x.rc) (h2 : y.ca = x.ca ∧ y.cl = x.cl ∧ y.cc = x.cc) :
    rxCells (l.set k y) = ((rxCells l).set (k * 4) (.int .i64 y.c)).set (k * 4 + 1) (.int .i64 y.f) := by
  have hk := (List.getElem?_eq_some_iff.1 h).1
  have hl : (rxCells l).length = l.length * 4 := rxCells_length l
  apply List.ext_getElem?
  intro j
  rw [show (rxCells (l.set k y))[j]? = if k * 4 ≤ j ∧ j < k * 4 + 4 then y.cells[j - k * 4]? else (rxCells l)[j]? from pack_set RX.cells 4 (fun _ => rfl) l k hk y j]
  simp only [List.getElem?_set,List.length_set,hl]
  by_cases hj : k * 4 ≤ j ∧ j < k * 4 + 4
  · rw [if_pos hj]
    obtain ⟨d,hd⟩ : ∃ d,j = k * 4 + d := ⟨j - k * 4,by omega⟩
    subst hd
    have hd4 : d < 4 := by omega
    rw [show k * 4 + d - k * 4 = d by omega,rxCells_at h d hd4]
    rcases (by omega : d = 0 ∨ d = 1 ∨ d = 2 ∨ d = 3) with rfl | rfl | rfl | rfl <;> simp [RX.cells,h1,h2] <;> omega
  · rw [if_neg hj,if_neg (by omega),if_neg (by omega)]
theorem txCells_set {l : List TXN} {k : Nat} {x y : TXN} (h : l[k]? = some x) (h1 : y.ra = x.ra ∧ y.rl = x.rl ∧ y.rc = x.rc) (h2 : y.la = x.la ∧ y.ll = x.ll ∧ y.lc = x.lc) :
    txCells (l.set k y) = ((((txCells l).set (k * 6) (.int .i64 y.p)).set (k * 6 + 1) (.int .i64 y.e)).set (k * 6 + 2) (.int .i64 y.s)).set (k * 6 + 3) (.int .i64 y.u) := by
  have hk := (List.getElem?_eq_some_iff.1 h).1
  have hl : (txCells l).length = l.length * 6 := txCells_length l
  apply List.ext_getElem?
  intro j
  rw [show (txCells (l.set k y))[j]? = if k * 6 ≤ j ∧ j < k * 6 + 6 then y.cells[j - k * 6]? else (txCells l)[j]? from pack_set TXN.cells 6 (fun _ => rfl) l k hk y j]
  simp only [List.getElem?_set,List.length_set,hl]
  by_cases hj : k * 6 ≤ j ∧ j < k * 6 + 6
  · rw [if_pos hj]
    obtain ⟨d,hd⟩ : ∃ d,j = k * 6 + d := ⟨j - k * 6,by omega⟩
    subst hd
    have hd6 : d < 6 := by omega
    rw [show k * 6 + d - k * 6 = d by omega,txCells_at h d hd6]
    rcases (by omega : d = 0 ∨ d = 1 ∨ d = 2 ∨ d = 3 ∨ d = 4 ∨ d = 5) with rfl | rfl | rfl | rfl | rfl | rfl <;> simp [TXN.cells,h1,h2] <;> omega
  · rw [if_neg hj,if_neg (by omega),if_neg (by omega),if_neg (by omega),if_neg (by omega)]
structure MR (w wr : World) (base : Nat) (g n c : Nat) (l m : List RX) : Prop where
  r : wr.ownsRow base 63 4 (.slice (some ⟨g,0,none⟩) n c) n (rxCells m)
  o : ∀ (j : Nat) (x : RX),m[j]? = some x → x.own wr base
  b : m.map RX.blks = l.map RX.blks
  f : Fr (fun X => X = g ∨ X ∈ l.flatMap RX.blks) w wr
theorem MR.round {w u v x : World} {base g n c : Nat} {l m : List RX} {k : Nat} {p q : RX} (h : MR w u base g n c l m) (nd : (l.flatMap RX.blks).Nodup) (hk : m[k]? = some p) (h1 : q.ra = p.ra ∧ q.rl = p.rl ∧ q.rc = p.rc) (h2 : q.ca = p.ca ∧ q.cl = p.cl ∧ q.cc = p.cc)
    (hg1 : ((u.setCell ⟨g,k * 4,none⟩ (.int .i64 q.c)).setCell ⟨g,k * 4 + 1,none⟩ (.int .i64 q.f)).grownBy v (blk? p.ra)) (hx : v.ownsRow base 9 1 (.slice p.ra p.rl p.rc) p.rl q.xs) (hg2 : v.grownBy x (blk? p.ca)) (hy : x.ownsRow base 96 2 (.slice p.ca p.cl p.cc) p.cl q.ys) : MR w x base g n c l (m.set k q) := by
  have hkl := (List.getElem?_eq_some_iff.1 hk).1
  have hp : p.own u base := h.o k p hk
  obtain ⟨hs1,hs2⟩ := h.r.stored (k * 4) (.int .i64 q.c)
  obtain ⟨hs3,hs4⟩ := hs1.stored (k * 4 + 1) (.int .i64 q.f)
  rw [← rxCells_set hk h1 h2] at hs3
  have hgr : ∀ X,blk? p.ra = some X → X ≠ g := fun X hX e => by
    subst e
    obtain ⟨C,hC⟩ := own_typed h.r (X := X) rfl
    exact own_ne hp.1 hC (by decide) hX
  have hgc : ∀ X,blk? p.ca = some X → X ≠ g := fun X hX e => by
    subst e
    obtain ⟨C,hC⟩ := own_typed h.r (X := X) rfl
    exact own_ne hp.2 hC (by decide) hX
  have hrc : ∀ X,blk? p.ca = some X → blk? p.ra ≠ some X := fun X hX hr => own_ne_own hp.1 hp.2 (by decide) hr hX
  have hnd : (m.flatMap RX.blks).Nodup := by rw [flat_map RX.blks m h.b]; exact nd
  have hin : ∀ X,X ∈ p.blks → X ∈ l.flatMap RX.blks := fun X hX => by rw [← flat_map RX.blks m h.b]; exact flat_mem hk hX
  have hr' : v.ownsRow base 63 4 (.slice (some ⟨g,0,none⟩) n c) n (rxCells (m.set k q)) := own_keep hs3 hg1 (by
    by_cases e : blk? p.ra = none
    · exact .inl e
    · obtain ⟨Z,hZ⟩ := Option.ne_none_iff_exists'.1 e
      exact .inr (by rw [hZ]; show some g ≠ some Z; intro e; exact hgr Z hZ (Option.some.inj e).symm))
  have hr'' : x.ownsRow base 63 4 (.slice (some ⟨g,0,none⟩) n c) n (rxCells (m.set k q)) := own_keep hr' hg2 (by
    by_cases e : blk? p.ca = none
    · exact .inl e
    · obtain ⟨Z,hZ⟩ := Option.ne_none_iff_exists'.1 e
      exact .inr (by rw [hZ]; show some g ≠ some Z; intro e; exact hgc Z hZ (Option.some.inj e).symm))
  have hF : Fr (fun X => X = g ∨ X ∈ p.blks) u x :=
    ((Fr.ofGrown (hs2.trans hs4) (fun X e => .inl (by simp at e; exact e.symm))).trans (Fr.ofGrown hg1 (fun X e => .inr (by simp [RX.blks,e])))).trans (Fr.ofGrown hg2 (fun X e => .inr (by simp [RX.blks,e])))
  refine ⟨hr'',fun j y hj => ?_,?_,h.f.trans (hF.mono fun X hX => ?_)⟩
  · by_cases e : k = j
    · subst e
      rw [List.getElem?_set_self hkl] at hj
      cases hj
      refine ⟨?_,?_⟩
      · rw [h1.1,h1.2.1,h1.2.2]
        exact own_keep hx hg2 (by
          by_cases e : blk? p.ca = none
          · exact .inl e
          · obtain ⟨Z,hZ⟩ := Option.ne_none_iff_exists'.1 e
            exact .inr (by rw [hZ]; exact hrc Z hZ))
      · rw [h2.1,h2.2.1,h2.2.2]
        exact hy
    · rw [List.getElem?_set_ne e] at hj
      refine (h.o j y hj).fr hF fun X hX hS => ?_
      rcases hS with rfl | hS
      · obtain ⟨C,hC⟩ := own_typed h.r (X := X) rfl
        exact (h.o j y hj).not hC (by decide) (by decide) hX
      · exact flat_apart hnd hk hj e hS hX
  · rw [List.map_set,h.b]
    apply List.ext_getElem?
    intro j
    by_cases e : k = j
    · subst e
      have hb := congrArg (fun z => z[k]?) h.b
      simp only [List.getElem?_map,hk,Option.map_some] at hb
      have hkl2 : k < l.length := by have := congrArg List.length h.b; simp at this; omega
      rw [List.getElem?_set_self (by simpa using hkl2),List.getElem?_map,← hb]
      simp [RX.blks,h1.1,h2.1]
    · rw [List.getElem?_set_ne e]
  · rcases hX with hX | hX
    · exact .inl hX
    · exact .inr (hin X hX)
structure MT (w wr : World) (base : Nat) (g n c : Nat) (l m : List TXN) : Prop where
  r : wr.ownsRow base 59 6 (.slice (some ⟨g,0,none⟩) n c) n (txCells m)
  o : ∀ (j : Nat) (x : TXN),m[j]? = some x → x.own wr base
  b : m.map TXN.blks = l.map TXN.blks
  f : Fr (fun X => X = g ∨ X ∈ l.flatMap TXN.blks) w wr
theorem MT.round {w u v x : World} {base g n c : Nat} {l m : List TXN} {k : Nat} {p q : TXN} (h : MT w u base g n c l m) (nd : (l.flatMap TXN.blks).Nodup) (hk : m[k]? = some p) (h1 : q.ra = p.ra ∧ q.rl = p.rl ∧ q.rc = p.rc) (h2 : q.la = p.la ∧ q.ll = p.ll ∧ q.lc = p.lc)
    (hg1 : ((((u.setCell ⟨g,k * 6,none⟩ (.int .i64 q.p)).setCell ⟨g,k * 6 + 1,none⟩ (.int .i64 q.e)).setCell ⟨g,k * 6 + 2,none⟩ (.int .i64 q.s)).setCell ⟨g,k * 6 + 3,none⟩ (.int .i64 q.u)).grownBy v (blk? p.ra)) (hx : v.ownsRow base 2 1 (.slice p.ra p.rl p.rc) p.rl q.xs) (hg2 : v.grownBy x (blk? p.la)) (hy : x.ownsRow base 2 1 (.slice p.la p.ll p.lc) p.ll q.ys) : MT w x base g n c l (m.set k q) := by
  have hkl := (List.getElem?_eq_some_iff.1 hk).1
  have hp : p.own u base := h.o k p hk
  obtain ⟨hs1,hs2⟩ := h.r.stored (k * 6) (.int .i64 q.p)
  obtain ⟨hs3,hs4⟩ := hs1.stored (k * 6 + 1) (.int .i64 q.e)
  obtain ⟨hs5,hs6⟩ := hs3.stored (k * 6 + 2) (.int .i64 q.s)
  obtain ⟨hs7,hs8⟩ := hs5.stored (k * 6 + 3) (.int .i64 q.u)
  rw [← txCells_set hk h1 h2] at hs7
  have hgr : ∀ X,blk? p.ra = some X → X ≠ g := fun X hX e => by
    subst e
    obtain ⟨C,hC⟩ := own_typed h.r (X := X) rfl
    exact own_ne hp.1 hC (by decide) hX
  have hgc : ∀ X,blk? p.la = some X → X ≠ g := fun X hX e => by
    subst e
    obtain ⟨C,hC⟩ := own_typed h.r (X := X) rfl
    exact own_ne hp.2.1 hC (by decide) hX
  have hrc : ∀ X,blk? p.la = some X → blk? p.ra ≠ some X := fun X hX hr => by
    have h3 := hp.2.2 X (by rw [ownBlock_slice]; exact hr)
    rw [ownBlock_slice] at h3
    exact h3 hX
  have hnd : (m.flatMap TXN.blks).Nodup := by rw [flat_map TXN.blks m h.b]; exact nd
  have hin : ∀ X,X ∈ p.blks → X ∈ l.flatMap TXN.blks := fun X hX => by rw [← flat_map TXN.blks m h.b]; exact flat_mem hk hX
  have hr' : v.ownsRow base 59 6 (.slice (some ⟨g,0,none⟩) n c) n (txCells (m.set k q)) := own_keep hs7 hg1 (by
    by_cases e : blk? p.ra = none
    · exact .inl e
    · obtain ⟨Z,hZ⟩ := Option.ne_none_iff_exists'.1 e
      exact .inr (by rw [hZ]; show some g ≠ some Z; intro e; exact hgr Z hZ (Option.some.inj e).symm))
  have hr'' : x.ownsRow base 59 6 (.slice (some ⟨g,0,none⟩) n c) n (txCells (m.set k q)) := own_keep hr' hg2 (by
    by_cases e : blk? p.la = none
    · exact .inl e
    · obtain ⟨Z,hZ⟩ := Option.ne_none_iff_exists'.1 e
      exact .inr (by rw [hZ]; show some g ≠ some Z; intro e; exact hgc Z hZ (Option.some.inj e).symm))
  have hF : Fr (fun X => X = g ∨ X ∈ p.blks) u x :=
    ((Fr.ofGrown (((hs2.trans hs4).trans hs6).trans hs8) (fun X e => .inl (by simp at e; exact e.symm))).trans (Fr.ofGrown hg1 (fun X e => .inr (by simp [TXN.blks,e])))).trans (Fr.ofGrown hg2 (fun X e => .inr (by simp [TXN.blks,e])))
  refine ⟨hr'',fun j y hj => ?_,?_,h.f.trans (hF.mono fun X hX => ?_)⟩
  · by_cases e : k = j
    · subst e
      rw [List.getElem?_set_self hkl] at hj
      cases hj
      refine ⟨?_,?_,?_⟩
      · rw [h1.1,h1.2.1,h1.2.2]
        exact own_keep hx hg2 (by
          by_cases e : blk? p.la = none
          · exact .inl e
          · obtain ⟨Z,hZ⟩ := Option.ne_none_iff_exists'.1 e
            exact .inr (by rw [hZ]; exact hrc Z hZ))
      · rw [h2.1,h2.2.1,h2.2.2]
        exact hy
      · rw [h1.1,h1.2.1,h1.2.2,h2.1,h2.2.1,h2.2.2]
        exact hp.2.2
    · rw [List.getElem?_set_ne e] at hj
      refine (h.o j y hj).fr hF fun X hX hS => ?_
      rcases hS with rfl | hS
      · obtain ⟨C,hC⟩ := own_typed h.r (X := X) rfl
        exact (h.o j y hj).not hC (by decide) hX
      · exact flat_apart hnd hk hj e hS hX
  · rw [List.map_set,h.b]
    apply List.ext_getElem?
    intro j
    by_cases e : k = j
    · subst e
      have hb := congrArg (fun z => z[k]?) h.b
      simp only [List.getElem?_map,hk,Option.map_some] at hb
      have hkl2 : k < l.length := by have := congrArg List.length h.b; simp at this; omega
      rw [List.getElem?_set_self (by simpa using hkl2),List.getElem?_map,← hb]
      simp [TXN.blks,h1.1,h2.1]
    · rw [List.getElem?_set_ne e]
  · rcases hX with hX | hX
    · exact .inl hX
    · exact .inr (hin X hX)
end Go.Proofs.YtahccighonddaaaGreatDoor
namespace Go.Proofs.YtahccighonddaaaGreatDoor
open Go.RowKit
set_option linter.unusedSimpArgs false
set_option linter.unusedVariables false
theorem szSum_lt {α : Type} {c : α → Nat} {l : List α} {k : Nat} {x : α} (h : l[k]? = some x) : szSum c (l.take k) + c x ≤ szSum c l := by
  have h1 := szSum_take c l (k + 1)
  rw [szSum_succ h] at h1
  exact h1
theorem szSum_len {α : Type} {c : α → Nat} {l : List α} (h : ∀ x,1 ≤ c x) : l.length ≤ szSum c l := by
  induction l with
  | nil => simp
  | cons x t ih =>
    have h1 := h x
    have e : szSum c (x :: t) = c x + szSum c t := by simp [szSum]
    rw [e,List.length_cons]
    omega
set_option maxHeartbeats 2000000 in
theorem law_markRingsX (a : Option Addr) (n c base : Nat) (l : List RX) (K : Nat) (w : World) (hr : w.ownsRow base 63 4 (.slice a n c) n (rxCells l)) (ho : ∀ (j : Nat) (x : RX),l[j]? = some x → x.own w base) (nd : (l.flatMap RX.blks).Nodup) (hK : 0 < K) (hm : K + szSum RX.cnt l ≤ 100000000) :
    Calls Tryz.prog 50 #[.slice a n c,.int .i64 K] w fun e w' => e = .returned (.int .i64 ((K + szSum RX.cnt l : Nat) : Int)) ∧ w'.ownsRow base 63 4 (.slice a n c) n (rxCells (mTo RX.mark RX.cnt K l n)) ∧ (∀ (j : Nat) (x : RX),(mTo RX.mark RX.cnt K l n)[j]? = some x → x.own w' base) ∧ Fr (fun X => blk? a = some X ∨ X ∈ l.flatMap RX.blks) w w' := by
  have hlen : l.length = n := by have h := hr.1; rw [rxCells_length] at h; omega
  have HR : Hid (w.ownsRow base 63 4 (.slice a n c) n (rxCells l)) := hr
  have HO : Hid (∀ (j : Nat) (x : RX),l[j]? = some x → x.own w base) := ho
  have HND : Hid ((l.flatMap RX.blks).Nodup) := nd
  have HM : Hid (K + szSum RX.cnt l ≤ 100000000) := hm
  have HLN : Hid (l.length = n) := hlen
  have hnl : n ≤ 100000000 := by have h1 := szSum_len (c := RX.cnt) (l := l) (fun x => by unfold RX.cnt; omega); omega
  clear hr ho nd hm hlen
  by_cases h0 : n = 0
  · subst h0
    have hl0 : l = [] := List.eq_nil_of_length_eq_zero HLN.out
    subst hl0
    go_enter Tryz.func50,Tryz.ntmps50
    go_wp2
    go_loopw [1,5] (fun q i wr => i = .int .i64 0 ∧ q = .int .i64 (K : Int) ∧ wr = w) (fun _ _ _ => 0)
    case atStart => exact ⟨rfl,rfl,rfl⟩
    case round =>
      obtain ⟨rfl,rfl,rfl⟩ := hrel
      go_wp2
      go_ret
      exact ⟨ret_int (by simp [szSum]),HR.out,(fun j x h => by simp [mTo] at h),Fr.refl _ _⟩
  obtain ⟨g,rfl⟩ := own_form HR.out (by omega)
  go_enter Tryz.func50,Tryz.ntmps50
  go_wp2
  go_loopw [1,5] (fun q i wr => ∃ k : Nat,k ≤ n ∧ i = .int .i64 k ∧ q = .int .i64 ((K + szSum RX.cnt (l.take k) : Nat) : Int) ∧ Hid (MR w wr base g n c l (mTo RX.mark RX.cnt K l k))) (fun _ i _ => n - (intOf i).toNat)
  case atStart => exact ⟨0,by omega,rfl,by simp [szSum],⟨by rw [mTo_zero]; exact HR.out,by rw [mTo_zero]; exact HO.out,by rw [mTo_zero],Fr.refl _ _⟩⟩
  case round =>
    obtain ⟨k,hk,rfl,rfl,ho⟩ := hrel
    by_cases hlt : k < n
    · obtain ⟨x,hx⟩ : ∃ x,l[k]? = some x := ⟨_,List.getElem?_eq_getElem (by rw [HLN.out]; exact hlt)⟩
      have hmx : (mTo RX.mark RX.cnt K l k)[k]? = some x := mTo_at hx
      have HS : Hid _ := mTo_set (f := RX.mark) (c := RX.cnt) (K := K) hx
      have hsl := szSum_lt (c := RX.cnt) hx
      have HSN : Hid (szSum RX.cnt (l.take (k + 1)) = szSum RX.cnt (l.take k) + RX.cnt x) := szSum_succ hx
      obtain ⟨Q,hQ⟩ : ∃ Q,K + szSum RX.cnt (l.take k) = Q := ⟨_,rfl⟩
      have hQm : Q + RX.cnt x ≤ 100000000 := by have := HM.out; omega
      have HQ : Hid (K + szSum RX.cnt (l.take k) = Q) := hQ
      rw [hQ] at HS ⊢
      have hQ0 : 0 < Q := by omega
      have hcx : RX.cnt x = 2 + x.rl + x.cl * 2 := rfl
      rw [hcx] at hQm
      have hcl0 := (ho.out.r.cellAt (k * 4) (by omega)).trans ((congrArg (fun j => (rxCells (mTo RX.mark RX.cnt K l k))[j]?) (Nat.add_zero _).symm).trans (rxCells_at hmx 0 (by omega)))
      have hcl1 := (ho.out.r.cellAt (k * 4 + 1) (by omega)).trans (rxCells_at hmx 1 (by omega))
      have hcl2 := (ho.out.r.cellAt (k * 4 + 2) (by omega)).trans (rxCells_at hmx 2 (by omega))
      have hcl3 := (ho.out.r.cellAt (k * 4 + 3) (by omega)).trans (rxCells_at hmx 3 (by omega))
      have hfr := fun o => ho.out.r.frozenAt o
      simp only [RX.cells,List.getElem?_cons_zero,List.getElem?_cons_succ] at hcl0 hcl1 hcl2 hcl3
      have HX : Hid (x.own wr base) := ho.out.o k x hmx
      have HMX : Hid ((mTo RX.mark RX.cnt K l k)[k]? = some x) := hmx
      have hbl := ho.out.r.lt g rfl
      have HGT : Hid (∃ C,wr.heap[g]? = some (.cells C 63 (0,0))) := own_typed ho.out.r (X := g) rfl
      clear hx hmx hQ hsl hcx
      have HXS : Hid (∀ v0 v1,((wr.setCell ⟨g,k * 4,none⟩ v0).setCell ⟨g,k * 4 + 1,none⟩ v1).ownsRow base 9 1 (.slice x.ra x.rl x.rc) x.rl x.xs ∧ ((wr.setCell ⟨g,k * 4,none⟩ v0).setCell ⟨g,k * 4 + 1,none⟩ v1).ownsRow base 96 2 (.slice x.ca x.cl x.cc) x.cl x.ys) := fun v0 v1 => by
        obtain ⟨C,hC⟩ := HGT.out
        have hg := (grown_setc wr g (k * 4) v0).trans (grown_setc _ g (k * 4 + 1) v1)
        exact ⟨own_keep HX.out.1 hg (.inr (own_ne HX.out.1 hC (by decide))),own_keep HX.out.2 hg (.inr (own_ne HX.out.2 hC (by decide)))⟩
      go_wp2_with fail
      refine (law_markStrs x.ra x.rl x.rc base x.xs (Q + 2) _ (HXS.out _ _).1 (by omega) (by omega)).mono ?_
      rintro e w1 ⟨rfl,ho1,hg1⟩
      have H1 : Hid _ := ho1
      have hg1b := hg1
      rw [ownBlock_slice] at hg1b
      have HG1 : Hid _ := hg1b
      have hd3 : w1.cell? ⟨g,k * 4 + 3,none⟩ = some (.slice x.ca x.cl x.cc) := by
        obtain ⟨C,hC⟩ := HGT.out
        refine (grown_cell hg1 (by simpa [World.setCell] using hbl.2) (fun e => ?_) _).trans ?_
        · rw [ownBlock_slice] at e
          exact own_ne HX.out.1 hC (by decide) e.symm
        · rw [World.cell?_setCell_other _ _ _ _ (by simp),World.cell?_setCell_other _ _ _ _ (by simp)]
          exact hcl3
      have HY1 : Hid (w1.ownsRow base 96 2 (.slice x.ca x.cl x.cc) x.cl x.ys) := own_keep (HXS.out _ _).2 hg1b (by
        by_cases e : blk? x.ra = none
        · exact .inl e
        · obtain ⟨Z,hZ⟩ := Option.ne_none_iff_exists'.1 e
          exact .inr (by rw [hZ]; exact own_ne_own HX.out.1 HX.out.2 (by decide) hZ))
      clear ho1 hg1 hg1b hcl0 hcl1 hcl2 hcl3 hfr
      go_wp2_with fail
      refine (law_markCurs x.ca x.cl x.cc base x.ys (Q + 2 + x.rl) _ HY1.out (by omega) (by omega)).mono ?_
      rintro e w2 ⟨rfl,ho2,hg2⟩
      have hg2b := hg2
      rw [ownBlock_slice] at hg2b
      have HN : Hid (MR w w2 base g n c l (mTo RX.mark RX.cnt K l (k + 1))) := by
        rw [← HS.out]
        exact ho.out.round HND.out HMX.out ⟨rfl,rfl,rfl⟩ ⟨rfl,rfl,rfl⟩ HG1.out H1.out hg2b ho2
      clear ho2 hg2 hg2b
      go_wp2
      exact ⟨⟨k + 1,by omega,by go_num,by rw [HSN.out,← Nat.add_assoc,HQ.out]; show _ = Value.int .i64 ((Q + (2 + x.rl + x.cl * 2) : Nat) : Int); go_num,HN.out⟩,by simp [intOf]; omega⟩
    · obtain rfl : k = n := by omega
      have HT : Hid (l.take k = l) := List.take_of_length_le (by rw [HLN.out]; omega)
      go_wp2
      go_ret
      exact ⟨ret_int (by rw [HT.out]),ho.out.r,ho.out.o,ho.out.f.mono fun X hX => hX.elim (fun e => .inl (by rw [e]; rfl)) .inr⟩
set_option maxHeartbeats 2000000 in
theorem law_heldRingsX (a : Option Addr) (n c base : Nat) (l : List RX) (K : Nat) (w : World) (hr : w.ownsRow base 63 4 (.slice a n c) n (rxCells (mTo RX.mark RX.cnt K l n))) (ho : ∀ (j : Nat) (x : RX),(mTo RX.mark RX.cnt K l n)[j]? = some x → x.own w base) (hK : 0 < K) (hm : K + szSum RX.cnt l ≤ 100000000) :
    Calls Tryz.prog 102 #[.slice a n c,.int .i64 K] w fun e w' => e = .returned (.int .i64 ((K + szSum RX.cnt l : Nat) : Int)) ∧ Below w.heap.size w w' := by
  have hlen : l.length = n := by have h := hr.1; rw [rxCells_length,mTo_length] at h; omega
  have HR : Hid (w.ownsRow base 63 4 (.slice a n c) n (rxCells (mTo RX.mark RX.cnt K l n))) := hr
  have HO : Hid (∀ (j : Nat) (x : RX),(mTo RX.mark RX.cnt K l n)[j]? = some x → x.own w base) := ho
  have HM : Hid (K + szSum RX.cnt l ≤ 100000000) := hm
  have HLN : Hid (l.length = n) := hlen
  have hnl : n ≤ 100000000 := by have h1 := szSum_len (c := RX.cnt) (l := l) (fun x => by unfold RX.cnt; omega); omega
  clear hr ho hm hlen
  go_enter Tryz.func102,Tryz.ntmps102
  go_wp2
  go_loopw [1,5] (fun q i wr => ∃ k : Nat,k ≤ n ∧ i = .int .i64 k ∧ q = .int .i64 ((K + szSum RX.cnt (l.take k) : Nat) : Int) ∧ Hid (Below w.heap.size w wr)) (fun _ i _ => n - (intOf i).toNat)
  case atStart => exact ⟨0,by omega,rfl,by simp [szSum],Below.refl _ _⟩
  case round =>
    obtain ⟨k,hk,rfl,rfl,hw⟩ := hrel
    by_cases hlt : k < n
    · obtain ⟨g,rfl⟩ := own_form HR.out (by omega)
      obtain ⟨x,hx⟩ : ∃ x,l[k]? = some x := ⟨_,List.getElem?_eq_getElem (by rw [HLN.out]; exact hlt)⟩
      have hmx : (mTo RX.mark RX.cnt K l n)[k]? = some (RX.mark (K + szSum RX.cnt (l.take k)) x) := mTo_all hx hlt
      have hsl := szSum_lt (c := RX.cnt) hx
      have HSN : Hid (szSum RX.cnt (l.take (k + 1)) = szSum RX.cnt (l.take k) + RX.cnt x) := szSum_succ hx
      obtain ⟨Q,hQ⟩ : ∃ Q,K + szSum RX.cnt (l.take k) = Q := ⟨_,rfl⟩
      have hQm : Q + RX.cnt x ≤ 100000000 := by have := HM.out; omega
      have HQ : Hid (K + szSum RX.cnt (l.take k) = Q) := hQ
      rw [hQ] at hmx ⊢
      have hQ0 : 0 < Q := by omega
      have hcx : RX.cnt x = 2 + x.rl + x.cl * 2 := rfl
      rw [hcx] at hQm
      have hlt2 := HR.out.lt g rfl
      have hcell := fun o => hw.out.cell (p := ⟨g,o,none⟩) hlt2.2
      have hcl0 := (hcell _).trans ((HR.out.cellAt (k * 4) (by omega)).trans ((congrArg (fun j => (rxCells (mTo RX.mark RX.cnt K l n))[j]?) (Nat.add_zero _).symm).trans (rxCells_at hmx 0 (by omega))))
      have hcl1 := (hcell _).trans ((HR.out.cellAt (k * 4 + 1) (by omega)).trans (rxCells_at hmx 1 (by omega)))
      have hcl2 := (hcell _).trans ((HR.out.cellAt (k * 4 + 2) (by omega)).trans (rxCells_at hmx 2 (by omega)))
      have hcl3 := (hcell _).trans ((HR.out.cellAt (k * 4 + 3) (by omega)).trans (rxCells_at hmx 3 (by omega)))
      simp only [RX.cells,RX.mark,List.getElem?_cons_zero,List.getElem?_cons_succ] at hcl0 hcl1 hcl2 hcl3
      rw [show ((Q + 1 : Nat) : Int) = (Q : Int) + 1 by omega] at hcl1
      have HX : Hid ((RX.mark Q x).own w base) := HO.out k _ hmx
      have HXL : Hid (x.xs.length = x.rl ∧ x.ys.length = x.cl * 2) := by
        have h1 := HX.out.1.1
        have h2 := HX.out.2.1
        simp only [RX.mark,mStr_length,mCur_length] at h1 h2
        show _ ∧ _
        omega
      have hne0 : ((Q : Int) != (Q : Int)) = false := by simp
      have hne1 : ((Q : Int) + 1 != (Q : Int) + 1) = false := by simp
      clear hx hmx hQ hsl hcx hcell
      go_wp2_with fail
      refine (law_heldStrs x.ra x.rl x.rc base x.xs (Q + 2) _ (own_below HX.out.1 hw.out) HXL.out.1 (by omega) (by omega)).mono ?_
      rintro e w1 ⟨rfl,hb1⟩
      have hd3 := (hb1.cell (p := ⟨g,k * 4 + 3,none⟩) (Nat.lt_of_lt_of_le hlt2.2 hw.out.size)).trans hcl3
      have HW1 : Hid (Below w.heap.size w w1) := below_tr hw.out hb1
      clear hb1 hcl0 hcl1 hcl2 hcl3
      go_wp2_with fail
      refine (law_heldCurs x.ca x.cl x.cc base x.ys (Q + 2 + x.rl) _ (own_below HX.out.2 HW1.out) HXL.out.2 (by omega) (by omega)).mono ?_
      rintro e w2 ⟨rfl,hw2⟩
      rw [hw2]
      clear hw2 w2
      go_wp2
      all_goals first | exact ⟨⟨k + 1,by omega,by go_num,by rw [HSN.out,← Nat.add_assoc,HQ.out]; show _ = Value.int .i64 ((Q + (2 + x.rl + x.cl * 2) : Nat) : Int); go_num,HW1.out⟩,by simp [intOf]; omega⟩ | (go_roundw; all_goals first | exact ⟨k + 1,by omega,by go_num,by rw [HSN.out,← Nat.add_assoc,HQ.out]; show _ = Value.int .i64 ((Q + (2 + x.rl + x.cl * 2) : Nat) : Int); go_num,HW1.out⟩ | (simp [intOf]; omega))
    · obtain rfl : k = n := by omega
      have HT : Hid (l.take k = l) := List.take_of_length_le (by rw [HLN.out]; omega)
      go_wp2
      go_ret
      exact ⟨ret_int (by rw [HT.out]),hw.out⟩
set_option maxHeartbeats 2000000 in
theorem law_markTxnsX (a : Option Addr) (n c base : Nat) (l : List TXN) (K : Nat) (w : World) (hr : w.ownsRow base 59 6 (.slice a n c) n (txCells l)) (ho : ∀ (j : Nat) (x : TXN),l[j]? = some x → x.own w base) (nd : (l.flatMap TXN.blks).Nodup) (hK : 0 < K) (hm : K + szSum TXN.cnt l ≤ 100000000) :
    Calls Tryz.prog 52 #[.slice a n c,.int .i64 K] w fun e w' => e = .returned (.int .i64 ((K + szSum TXN.cnt l : Nat) : Int)) ∧ w'.ownsRow base 59 6 (.slice a n c) n (txCells (mTo TXN.mark TXN.cnt K l n)) ∧ (∀ (j : Nat) (x : TXN),(mTo TXN.mark TXN.cnt K l n)[j]? = some x → x.own w' base) ∧ Fr (fun X => blk? a = some X ∨ X ∈ l.flatMap TXN.blks) w w' := by
  have hlen : l.length = n := by have h := hr.1; rw [txCells_length] at h; omega
  have HR : Hid (w.ownsRow base 59 6 (.slice a n c) n (txCells l)) := hr
  have HO : Hid (∀ (j : Nat) (x : TXN),l[j]? = some x → x.own w base) := ho
  have HND : Hid ((l.flatMap TXN.blks).Nodup) := nd
  have HM : Hid (K + szSum TXN.cnt l ≤ 100000000) := hm
  have HLN : Hid (l.length = n) := hlen
  have hnl : n ≤ 100000000 := by have h1 := szSum_len (c := TXN.cnt) (l := l) (fun x => by unfold TXN.cnt; omega); omega
  clear hr ho nd hm hlen
  by_cases h0 : n = 0
  · subst h0
    have hl0 : l = [] := List.eq_nil_of_length_eq_zero HLN.out
    subst hl0
    go_enter Tryz.func52,Tryz.ntmps52
    go_wp2
    go_loopw [1,5] (fun q i wr => i = .int .i64 0 ∧ q = .int .i64 (K : Int) ∧ wr = w) (fun _ _ _ => 0)
    case atStart => exact ⟨rfl,rfl,rfl⟩
    case round =>
      obtain ⟨rfl,rfl,rfl⟩ := hrel
      go_wp2
      go_ret
      exact ⟨ret_int (by simp [szSum]),HR.out,(fun j x h => by simp [mTo] at h),Fr.refl _ _⟩
  obtain ⟨g,rfl⟩ := own_form HR.out (by omega)
  go_enter Tryz.func52,Tryz.ntmps52
  go_wp2
  go_loopw [1,5] (fun q i wr => ∃ k : Nat,k ≤ n ∧ i = .int .i64 k ∧ q = .int .i64 ((K + szSum TXN.cnt (l.take k) : Nat) : Int) ∧ Hid (MT w wr base g n c l (mTo TXN.mark TXN.cnt K l k))) (fun _ i _ => n - (intOf i).toNat)
  case atStart => exact ⟨0,by omega,rfl,by simp [szSum],⟨by rw [mTo_zero]; exact HR.out,by rw [mTo_zero]; exact HO.out,by rw [mTo_zero],Fr.refl _ _⟩⟩
  case round =>
    obtain ⟨k,hk,rfl,rfl,ho⟩ := hrel
    by_cases hlt : k < n
    · obtain ⟨x,hx⟩ : ∃ x,l[k]? = some x := ⟨_,List.getElem?_eq_getElem (by rw [HLN.out]; exact hlt)⟩
      have hmx : (mTo TXN.mark TXN.cnt K l k)[k]? = some x := mTo_at hx
      have HS : Hid _ := mTo_set (f := TXN.mark) (c := TXN.cnt) (K := K) hx
      have hsl := szSum_lt (c := TXN.cnt) hx
      have HSN : Hid (szSum TXN.cnt (l.take (k + 1)) = szSum TXN.cnt (l.take k) + TXN.cnt x) := szSum_succ hx
      obtain ⟨Q,hQ⟩ : ∃ Q,K + szSum TXN.cnt (l.take k) = Q := ⟨_,rfl⟩
      have hQm : Q + TXN.cnt x ≤ 100000000 := by have := HM.out; omega
      have HQ : Hid (K + szSum TXN.cnt (l.take k) = Q) := hQ
      rw [hQ] at HS ⊢
      have hQ0 : 0 < Q := by omega
      have hcx : TXN.cnt x = 4 + x.rl + x.ll := rfl
      rw [hcx] at hQm
      have hcl0 := (ho.out.r.cellAt (k * 6) (by omega)).trans ((congrArg (fun j => (txCells (mTo TXN.mark TXN.cnt K l k))[j]?) (Nat.add_zero _).symm).trans (txCells_at hmx 0 (by omega)))
      have hcl1 := (ho.out.r.cellAt (k * 6 + 1) (by omega)).trans (txCells_at hmx 1 (by omega))
      have hcl2 := (ho.out.r.cellAt (k * 6 + 2) (by omega)).trans (txCells_at hmx 2 (by omega))
      have hcl3 := (ho.out.r.cellAt (k * 6 + 3) (by omega)).trans (txCells_at hmx 3 (by omega))
      have hcl4 := (ho.out.r.cellAt (k * 6 + 4) (by omega)).trans (txCells_at hmx 4 (by omega))
      have hcl5 := (ho.out.r.cellAt (k * 6 + 5) (by omega)).trans (txCells_at hmx 5 (by omega))
      have hfr := fun o => ho.out.r.frozenAt o
      simp only [TXN.cells,List.getElem?_cons_zero,List.getElem?_cons_succ] at hcl0 hcl1 hcl2 hcl3 hcl4 hcl5
      have HX : Hid (x.own wr base) := ho.out.o k x hmx
      have HMX : Hid ((mTo TXN.mark TXN.cnt K l k)[k]? = some x) := hmx
      have hbl := ho.out.r.lt g rfl
      have HGT : Hid (∃ C,wr.heap[g]? = some (.cells C 59 (0,0))) := own_typed ho.out.r (X := g) rfl
      clear hx hmx hQ hsl hcx
      have HXS : Hid (∀ v0 v1 v2 v3,((((wr.setCell ⟨g,k * 6,none⟩ v0).setCell ⟨g,k * 6 + 1,none⟩ v1).setCell ⟨g,k * 6 + 2,none⟩ v2).setCell ⟨g,k * 6 + 3,none⟩ v3).ownsRow base 2 1 (.slice x.ra x.rl x.rc) x.rl x.xs ∧ ((((wr.setCell ⟨g,k * 6,none⟩ v0).setCell ⟨g,k * 6 + 1,none⟩ v1).setCell ⟨g,k * 6 + 2,none⟩ v2).setCell ⟨g,k * 6 + 3,none⟩ v3).ownsRow base 2 1 (.slice x.la x.ll x.lc) x.ll x.ys) := fun v0 v1 v2 v3 => by
        obtain ⟨C,hC⟩ := HGT.out
        have hg := (((grown_setc wr g (k * 6) v0).trans (grown_setc _ g (k * 6 + 1) v1)).trans (grown_setc _ g (k * 6 + 2) v2)).trans (grown_setc _ g (k * 6 + 3) v3)
        exact ⟨own_keep HX.out.1 hg (.inr (own_ne HX.out.1 hC (by decide))),own_keep HX.out.2.1 hg (.inr (own_ne HX.out.2.1 hC (by decide)))⟩
      go_wp2_with fail
      refine (law_markNums x.ra x.rl x.rc base x.xs (Q + 4) _ (HXS.out _ _ _ _).1 (by omega) (by omega)).mono ?_
      rintro e w1 ⟨rfl,ho1,hg1⟩
      have H1 : Hid _ := ho1
      have hg1b := hg1
      rw [ownBlock_slice] at hg1b
      have HG1 : Hid _ := hg1b
      have hd5 : w1.cell? ⟨g,k * 6 + 5,none⟩ = some (.slice x.la x.ll x.lc) := by
        obtain ⟨C,hC⟩ := HGT.out
        refine (grown_cell hg1 (by simpa [World.setCell] using hbl.2) (fun e => ?_) _).trans ?_
        · rw [ownBlock_slice] at e
          exact own_ne HX.out.1 hC (by decide) e.symm
        · rw [World.cell?_setCell_other _ _ _ _ (by simp),World.cell?_setCell_other _ _ _ _ (by simp),World.cell?_setCell_other _ _ _ _ (by simp),World.cell?_setCell_other _ _ _ _ (by simp)]
          exact hcl5
      have HY1 : Hid (w1.ownsRow base 2 1 (.slice x.la x.ll x.lc) x.ll x.ys) := own_keep (HXS.out _ _ _ _).2 hg1b (by
        by_cases e : blk? x.ra = none
        · exact .inl e
        · obtain ⟨Z,hZ⟩ := Option.ne_none_iff_exists'.1 e
          exact .inr (by rw [hZ]; have h3 := HX.out.2.2 Z (by rw [ownBlock_slice]; exact hZ); rw [ownBlock_slice] at h3; exact h3))
      clear ho1 hg1 hg1b hcl0 hcl1 hcl2 hcl3 hcl4 hcl5 hfr
      go_wp2_with fail
      refine (law_markNums x.la x.ll x.lc base x.ys (Q + 4 + x.rl) _ HY1.out (by omega) (by omega)).mono ?_
      rintro e w2 ⟨rfl,ho2,hg2⟩
      have hg2b := hg2
      rw [ownBlock_slice] at hg2b
      have HN : Hid (MT w w2 base g n c l (mTo TXN.mark TXN.cnt K l (k + 1))) := by
        rw [← HS.out]
        exact ho.out.round HND.out HMX.out ⟨rfl,rfl,rfl⟩ ⟨rfl,rfl,rfl⟩ HG1.out H1.out hg2b ho2
      clear ho2 hg2 hg2b
      go_wp2
      exact ⟨⟨k + 1,by omega,by go_num,by rw [HSN.out,← Nat.add_assoc,HQ.out]; show _ = Value.int .i64 ((Q + (4 + x.rl + x.ll) : Nat) : Int); go_num,HN.out⟩,by simp [intOf]; omega⟩
    · obtain rfl : k = n := by omega
      have HT : Hid (l.take k = l) := List.take_of_length_le (by rw [HLN.out]; omega)
      go_wp2
      go_ret
      exact ⟨ret_int (by rw [HT.out]),ho.out.r,ho.out.o,ho.out.f.mono fun X hX => hX.elim (fun e => .inl (by rw [e]; rfl)) .inr⟩
set_option maxHeartbeats 2000000 in
theorem law_heldTxnsX (a : Option Addr) (n c base : Nat) (l : List TXN) (K : Nat) (w : World) (hr : w.ownsRow base 59 6 (.slice a n c) n (txCells (mTo TXN.mark TXN.cnt K l n))) (ho : ∀ (j : Nat) (x : TXN),(mTo TXN.mark TXN.cnt K l n)[j]? = some x → x.own w base) (hK : 0 < K) (hm : K + szSum TXN.cnt l ≤ 100000000) :
    Calls Tryz.prog 104 #[.slice a n c,.int .i64 K] w fun e w' => e = .returned (.int .i64 ((K + szSum TXN.cnt l : Nat) : Int)) ∧ Below w.heap.size w w' := by
  have hlen : l.length = n := by have h := hr.1; rw [txCells_length,mTo_length] at h; omega
  have HR : Hid (w.ownsRow base 59 6 (.slice a n c) n (txCells (mTo TXN.mark TXN.cnt K l n))) := hr
  have HO : Hid (∀ (j : Nat) (x : TXN),(mTo TXN.mark TXN.cnt K l n)[j]? = some x → x.own w base) := ho
  have HM : Hid (K + szSum TXN.cnt l ≤ 100000000) := hm
  have HLN : Hid (l.length = n) := hlen
  have hnl : n ≤ 100000000 := by have h1 := szSum_len (c := TXN.cnt) (l := l) (fun x => by unfold TXN.cnt; omega); omega
  clear hr ho hm hlen
  go_enter Tryz.func104,Tryz.ntmps104
  go_wp2
  go_loopw [1,5] (fun q i wr => ∃ k : Nat,k ≤ n ∧ i = .int .i64 k ∧ q = .int .i64 ((K + szSum TXN.cnt (l.take k) : Nat) : Int) ∧ Hid (Below w.heap.size w wr)) (fun _ i _ => n - (intOf i).toNat)
  case atStart => exact ⟨0,by omega,rfl,by simp [szSum],Below.refl _ _⟩
  case round =>
    obtain ⟨k,hk,rfl,rfl,hw⟩ := hrel
    by_cases hlt : k < n
    · obtain ⟨g,rfl⟩ := own_form HR.out (by omega)
      obtain ⟨x,hx⟩ : ∃ x,l[k]? = some x := ⟨_,List.getElem?_eq_getElem (by rw [HLN.out]; exact hlt)⟩
      have hmx : (mTo TXN.mark TXN.cnt K l n)[k]? = some (TXN.mark (K + szSum TXN.cnt (l.take k)) x) := mTo_all hx hlt
      have hsl := szSum_lt (c := TXN.cnt) hx
      have HSN : Hid (szSum TXN.cnt (l.take (k + 1)) = szSum TXN.cnt (l.take k) + TXN.cnt x) := szSum_succ hx
      obtain ⟨Q,hQ⟩ : ∃ Q,K + szSum TXN.cnt (l.take k) = Q := ⟨_,rfl⟩
      have hQm : Q + TXN.cnt x ≤ 100000000 := by have := HM.out; omega
      have HQ : Hid (K + szSum TXN.cnt (l.take k) = Q) := hQ
      rw [hQ] at hmx ⊢
      have hQ0 : 0 < Q := by omega
      have hcx : TXN.cnt x = 4 + x.rl + x.ll := rfl
      rw [hcx] at hQm
      have hlt2 := HR.out.lt g rfl
      have hcell := fun o => hw.out.cell (p := ⟨g,o,none⟩) hlt2.2
      have hcl0 := (hcell _).trans ((HR.out.cellAt (k * 6) (by omega)).trans ((congrArg (fun j => (txCells (mTo TXN.mark TXN.cnt K l n))[j]?) (Nat.add_zero _).symm).trans (txCells_at hmx 0 (by omega))))
      have hcl1 := (hcell _).trans ((HR.out.cellAt (k * 6 + 1) (by omega)).trans (txCells_at hmx 1 (by omega)))
      have hcl2 := (hcell _).trans ((HR.out.cellAt (k * 6 + 2) (by omega)).trans (txCells_at hmx 2 (by omega)))
      have hcl3 := (hcell _).trans ((HR.out.cellAt (k * 6 + 3) (by omega)).trans (txCells_at hmx 3 (by omega)))
      have hcl4 := (hcell _).trans ((HR.out.cellAt (k * 6 + 4) (by omega)).trans (txCells_at hmx 4 (by omega)))
      have hcl5 := (hcell _).trans ((HR.out.cellAt (k * 6 + 5) (by omega)).trans (txCells_at hmx 5 (by omega)))
      simp only [TXN.cells,TXN.mark,List.getElem?_cons_zero,List.getElem?_cons_succ] at hcl0 hcl1 hcl2 hcl3 hcl4 hcl5
      rw [show ((Q + 1 : Nat) : Int) = (Q : Int) + 1 by omega] at hcl1
      rw [show ((Q + 2 : Nat) : Int) = (Q : Int) + 2 by omega] at hcl2
      rw [show ((Q + 3 : Nat) : Int) = (Q : Int) + 3 by omega] at hcl3
      have HX : Hid ((TXN.mark Q x).own w base) := HO.out k _ hmx
      have HXL : Hid (x.xs.length = x.rl ∧ x.ys.length = x.ll) := by
        have h1 := HX.out.1.1
        have h2 := HX.out.2.1.1
        simp only [TXN.mark,mNum_length] at h1 h2
        show _ ∧ _
        omega
      have hne0 : ((Q : Int) != (Q : Int)) = false := by simp
      have hne1 : ((Q : Int) + 1 != (Q : Int) + 1) = false := by simp
      have hne2 : ((Q : Int) + 2 != (Q : Int) + 2) = false := by simp
      have hne3 : ((Q : Int) + 3 != (Q : Int) + 3) = false := by simp
      clear hx hmx hQ hsl hcx hcell
      go_wp2_with fail
      refine (law_heldNums x.ra x.rl x.rc base x.xs (Q + 4) _ (own_below HX.out.1 hw.out) HXL.out.1 (by omega) (by omega)).mono ?_
      rintro e w1 ⟨rfl,hb1⟩
      have hd5 := (hb1.cell (p := ⟨g,k * 6 + 5,none⟩) (Nat.lt_of_lt_of_le hlt2.2 hw.out.size)).trans hcl5
      have HW1 : Hid (Below w.heap.size w w1) := below_tr hw.out hb1
      clear hb1 hcl0 hcl1 hcl2 hcl3 hcl4 hcl5
      go_wp2_with fail
      refine (law_heldNums x.la x.ll x.lc base x.ys (Q + 4 + x.rl) _ (own_below HX.out.2.1 HW1.out) HXL.out.2 (by omega) (by omega)).mono ?_
      rintro e w2 ⟨rfl,hb2⟩
      have HW2 : Hid (Below w.heap.size w w2) := below_tr HW1.out hb2
      clear hb2
      go_wp2
      all_goals first | exact ⟨⟨k + 1,by omega,by go_num,by rw [HSN.out,← Nat.add_assoc,HQ.out]; show _ = Value.int .i64 ((Q + (4 + x.rl + x.ll) : Nat) : Int); go_num,HW2.out⟩,by simp [intOf]; omega⟩ | (go_roundw; all_goals first | exact ⟨k + 1,by omega,by go_num,by rw [HSN.out,← Nat.add_assoc,HQ.out]; show _ = Value.int .i64 ((Q + (4 + x.rl + x.ll) : Nat) : Int); go_num,HW2.out⟩ | (simp [intOf]; omega))
    · obtain rfl : k = n := by omega
      have HT : Hid (l.take k = l) := List.take_of_length_le (by rw [HLN.out]; omega)
      go_wp2
      go_ret
      exact ⟨ret_int (by rw [HT.out]),hw.out⟩
end Go.Proofs.YtahccighonddaaaGreatDoor
namespace Go.Proofs.YtahccighonddaaaGreatDoor
open Go.RowKit Go.Maps
attribute [local go_sem ↓] Go.wp_at_zero Go.wp_at_succ
set_option linter.unusedSimpArgs false
set_option linter.unusedVariables false
structure FO (w v : World) (X : Nat) (ra : Option Addr) (rl rc : Nat) (ea : Option Addr) (el ec : Nat) (ta : Option Addr) (tl tc : Nat) (now : Int) (rs : List RD) (es : List Int) (ts : List TD) : Prop where
  y : v.heap[w.heap.size]? = some (fabO none 0 0 none 0 0 none 0 0 0)
  x : v.heap[X]? = some (fabO ra rl rc ea el ec ta tl tc now)
  own : OwnFab v w.heap.size ra rl rc ea el ec ta tl tc rs es ts
  lx : w.heap.size < X
  bel : Below w.heap.size w v
section
variable {w u v : World} {X : Nat} {ra : Option Addr} {rl rc : Nat} {ea : Option Addr} {el ec : Nat} {ta : Option Addr} {tl tc : Nat} {now : Int} {rs : List RD} {es : List Int} {ts : List TD}
theorem FO.under (h : FO w u X ra rl rc ea el ec ta tl tc now rs es ts) (hb : Below u.heap.size u v) : FO w v X ra rl rc ea el ec ta tl tc now rs es ts :=
  ⟨(hb.block _ (fb_lt h.y)).trans h.y,(hb.block _ (fb_lt h.x)).trans h.x,h.own.below hb,h.lx,below_tr h.bel hb⟩
theorem fab_ne : 31 ≠ 63 ∧ 31 ≠ 59 ∧ 31 ≠ 2 ∧ 31 ≠ 9 ∧ 31 ≠ 96 := by decide
theorem FO.ring {a1 : Option Addr} {c1 b1 : Nat} {r : RD} (h : FO w u X ra rl rc none 0 0 none 0 0 now rs [] []) (hr : r.own u b1) (hb1 : ∀ Z ∈ rs.flatMap RD.blks,Z < b1) (hwb : w.heap.size ≤ b1)
    (ho : v.ownsRow w.heap.size 63 4 (.slice a1 (rl + 1) c1) (rl + 1) (rdCells rs ++ r.cells)) (hg : u.grownBy v (Value.slice ra rl rc).ownBlock) :
    v.heap[X]? = some (fabO ra rl rc none 0 0 none 0 0 now) ∧ FO w (v.setCell ⟨X,0,none⟩ (.slice a1 (rl + 1) c1)) X a1 (rl + 1) c1 none 0 0 none 0 0 now (rs ++ [r]) [] [] := by
  rw [ownBlock_slice] at hg
  have hx : v.heap[X]? = some (fabO ra rl rc none 0 0 none 0 0 now) := (hg.block _ (fb_lt h.x) (fun e => own_ne h.own.r h.x (by decide) e.symm)).trans h.x
  have hy : v.heap[w.heap.size]? = some (fabO none 0 0 none 0 0 none 0 0 0) := (hg.block _ (fb_lt h.y) (fun e => own_ne h.own.r h.y (by decide) e.symm)).trans h.y
  have hrow : ∀ (Z : Nat),blk? ra = some Z → ∃ C,u.heap[Z]? = some (.cells C 63 (0,0)) := fun Z hZ => own_typed h.own.r hZ
  have hri : ∀ q ∈ rs ++ [r],q.own v w.heap.size := fun q hq => by
    rcases List.mem_append.1 hq with hq | hq
    · exact (h.own.ri q hq).keep hg fun Z hZ e => by obtain ⟨C,hC⟩ := hrow Z e; exact (h.own.ri q hq).not hC (by decide) (by decide) hZ
    · rw [List.mem_singleton.1 hq]
      exact (hr.keep hg fun Z hZ e => by obtain ⟨C,hC⟩ := hrow Z e; exact hr.not hC (by decide) (by decide) hZ).mono hwb
  have hbel : Below w.heap.size w v := h.bel.grown hg h.bel.size (fun k e => by
    have := own_blk_lt h.own.r e
    exact this.1)
  have hnd : (fabBlks (rs ++ [r]) [] none).Nodup := by
    have h0 := h.own.nd
    simp only [fabBlks,List.flatMap_nil,List.nil_append,List.append_nil,blk?,Option.map_none,Option.toList_none] at h0 ⊢
    rw [List.flatMap_append]
    refine nodup_two h0 (by simpa using hr.nd) fun x hx y hy e => ?_
    have h1 := hb1 x hx
    have h2 := (hr.lt (by simpa using hy)).1
    omega
  have hF : OwnFab v w.heap.size a1 (rl + 1) c1 none 0 0 none 0 0 (rs ++ [r]) [] [] :=
    ⟨by rw [show rdCells (rs ++ [r]) = rdCells rs ++ r.cells by simp [rdCells]]; exact ho,World.ownsRow_nil _ _ _ _,World.ownsRow_nil _ _ _ _,hri,(fun _ h => by cases h),hnd⟩
  have hgX := grown_setc v X 0 (.slice a1 (rl + 1) c1)
  exact ⟨hx,(hgX.block _ (fb_lt hy) (by have := h.lx; simp; omega)).trans hy,heap_setCell_same v X 0 _ _ _ hx,hF.box hx fab_ne hgX,h.lx,hbel.setCell (p := ⟨X,0,none⟩) (Nat.le_of_lt h.lx) _⟩
theorem FO.txn {a1 : Option Addr} {c1 b1 : Nat} {t : TD} (h : FO w u X ra rl rc none 0 0 ta tl tc now rs [] ts) (hr : t.own u b1) (hb1 : ∀ Z ∈ fabBlks rs ts none,Z < b1) (hwb : w.heap.size ≤ b1)
    (ho : v.ownsRow w.heap.size 59 6 (.slice a1 (tl + 1) c1) (tl + 1) (tdCells ts ++ t.cells)) (hg : u.grownBy v (Value.slice ta tl tc).ownBlock) :
    v.heap[X]? = some (fabO ra rl rc none 0 0 ta tl tc now) ∧ FO w (v.setCell ⟨X,2,none⟩ (.slice a1 (tl + 1) c1)) X ra rl rc none 0 0 a1 (tl + 1) c1 now rs [] (ts ++ [t]) := by
  rw [ownBlock_slice] at hg
  have hx : v.heap[X]? = some (fabO ra rl rc none 0 0 ta tl tc now) := (hg.block _ (fb_lt h.x) (fun e => own_ne h.own.t h.x (by decide) e.symm)).trans h.x
  have hy : v.heap[w.heap.size]? = some (fabO none 0 0 none 0 0 none 0 0 0) := (hg.block _ (fb_lt h.y) (fun e => own_ne h.own.t h.y (by decide) e.symm)).trans h.y
  have hrow : ∀ (Z : Nat),blk? ta = some Z → ∃ C,u.heap[Z]? = some (.cells C 59 (0,0)) := fun Z hZ => own_typed h.own.t hZ
  have hti : ∀ q ∈ ts ++ [t],q.own v w.heap.size := fun q hq => by
    rcases List.mem_append.1 hq with hq | hq
    · exact (h.own.ti q hq).keep hg fun Z hZ e => by obtain ⟨C,hC⟩ := hrow Z e; exact (h.own.ti q hq).not hC (by decide) hZ
    · rw [List.mem_singleton.1 hq]
      exact (hr.keep hg fun Z hZ e => by obtain ⟨C,hC⟩ := hrow Z e; exact hr.not hC (by decide) hZ).mono hwb
  have hri : ∀ q ∈ rs,q.own v w.heap.size := fun q hq => (h.own.ri q hq).keep hg fun Z hZ e => by obtain ⟨C,hC⟩ := hrow Z e; exact (h.own.ri q hq).not hC (by decide) (by decide) hZ
  have hrr : v.ownsRow w.heap.size 63 4 (.slice ra rl rc) rl (rdCells rs) := own_keep h.own.r hg (by
    by_cases e : blk? ta = none
    · exact .inl e
    · obtain ⟨Z,hZ⟩ := Option.ne_none_iff_exists'.1 e
      exact .inr (by rw [hZ]; exact own_ne_own h.own.t h.own.r (by decide) hZ))
  have hbel : Below w.heap.size w v := h.bel.grown hg h.bel.size (fun k e => (own_blk_lt h.own.t e).1)
  have hnd : (fabBlks rs (ts ++ [t]) none).Nodup := by
    have h0 := h.own.nd
    simp only [fabBlks,blk?,Option.map_none,Option.toList_none,List.append_nil] at h0 hb1 ⊢
    rw [List.flatMap_append,← List.append_assoc]
    refine nodup_two h0 (by simpa using hr.nd) fun x hx y hy e => ?_
    have h1 := hb1 x hx
    have h2 := (hr.lt (by simpa using hy)).1
    omega
  have hF : OwnFab v w.heap.size ra rl rc none 0 0 a1 (tl + 1) c1 rs [] (ts ++ [t]) :=
    ⟨hrr,World.ownsRow_nil _ _ _ _,by rw [show tdCells (ts ++ [t]) = tdCells ts ++ t.cells by simp [tdCells]]; exact ho,hri,hti,hnd⟩
  have hgX := grown_setc v X 2 (.slice a1 (tl + 1) c1)
  exact ⟨hx,(hgX.block _ (fb_lt hy) (by have := h.lx; simp; omega)).trans hy,heap_setCell_same v X 2 _ _ _ hx,hF.box hx fab_ne hgX,h.lx,hbel.setCell (p := ⟨X,2,none⟩) (Nat.le_of_lt h.lx) _⟩
theorem FO.eps {a1 : Option Addr} {c1 n base : Nat} (h : FO w u X ra rl rc none 0 0 ta tl tc now rs [] ts) (hb1 : ∀ Z ∈ fabBlks rs ts none,Z < base) (hwb : w.heap.size ≤ base)
    (ho : v.ownsRow base 2 1 (.slice a1 n c1) n (numCells es)) (hg : u.grownBy v none) (hXb : X < base) :
    v.heap[X]? = some (fabO ra rl rc none 0 0 ta tl tc now) ∧ FO w (v.setCell ⟨X,1,none⟩ (.slice a1 n c1)) X ra rl rc a1 n c1 ta tl tc now rs es ts := by
  have h1 := h.under (below_of_grown hg)
  have hnd : (fabBlks rs ts a1).Nodup := by
    have h0 := h.own.nd
    simp only [fabBlks,blk?,Option.map_none,Option.toList_none,List.append_nil] at h0 hb1 ⊢
    rw [← List.append_assoc]
    refine nodup_two h0 (nodup_opt _) fun x hx y hy e => ?_
    have h2 := hb1 x hx
    have h3 := (own_blk_lt ho (Option.mem_toList.1 hy)).1
    omega
  have hgX := grown_setc v X 1 (.slice a1 n c1)
  have hF : OwnFab v w.heap.size ra rl rc a1 n c1 ta tl tc rs es ts := ⟨h1.own.r,own_base ho hwb,h1.own.t,h1.own.ri,h1.own.ti,hnd⟩
  exact ⟨h1.x,(hgX.block _ (fb_lt h1.y) (by have := h.lx; simp; omega)).trans h1.y,heap_setCell_same v X 1 _ _ _ h1.x,hF.box h1.x fab_ne hgX,h.lx,h1.bel.setCell (p := ⟨X,1,none⟩) (Nat.le_of_lt h.lx) _⟩
end
end Go.Proofs.YtahccighonddaaaGreatDoor
namespace Go.Proofs.YtahccighonddaaaGreatDoor
open Go.RowKit
attribute [local go_sem ↓] Go.wp_at_zero Go.wp_at_succ
set_option linter.unusedSimpArgs false
set_option linter.unusedVariables false
abbrev hearC (r : RD) (ta : Option Addr) (tl tc : Nat) : Array Value := #[.int .i64 r.cap,.int .i64 r.first,.slice r.ra r.rl r.rc,.slice r.ca r.cl r.cc,.slice ta tl tc]
abbrev hearV (r : RD) (ta : Option Addr) (tl tc : Nat) : Value := .agg (hearC r ta tl tc)
abbrev hearO (r : RD) (ta : Option Addr) (tl tc : Nat) : Obj := .cells (hearC r ta tl tc) 168 (0,0)
section
variable (ta : Option Addr) (tl tc : Nat)
set_option maxRecDepth 100000 in
set_option maxHeartbeats 1000000 in
theorem impl_hend (r : RD) (w : World) (h : 0 ≤ r.first ∧ r.first ≤ 1000000) (hl : r.rl ≤ 1048576) :
    Calls Tryz.prog 175 #[hearV r ta tl tc] w fun x w' => x = .returned (.int .i64 (r.first + (r.rl : Int))) ∧ Below w.heap.size w w' := by
  obtain ⟨cap,first,ra,rl,rc,ca,cl,cc,recs,curs⟩ := r
  simp only at h hl
  go_enter Tryz.func175,Tryz.ntmps175
  go_wp2_with fail
  refine (impl_atWork (cap := cap) (first := first) (ra := ra) (rl := rl) (rc := rc) (ca := ca) (cl := cl) (cc := cc) _).mono ?_
  rintro x v ⟨rfl,hbv,hwk,hsz⟩
  have HB : Hid (Below w.heap.size w v) := below_tr (fbelow_new _ _) hbv
  obtain ⟨X,hX⟩ : ∃ X,(w.alloc (hearO ⟨cap,first,ra,rl,rc,ca,cl,cc,recs,curs⟩ ta tl tc)).heap.size + 1 = X := ⟨_,rfl⟩
  have HK : Hid (Work v X cap first ra rl rc ca cl cc 0 0 0) := hX ▸ hwk
  rw [hX]
  clear hX hbv hwk hsz
  go_wp2_with fail
  refine (impl_end X 0 0 0 v HK.out h hl).mono ?_
  rintro x v2 ⟨rfl,hb2⟩
  have HB2 : Hid (Below w.heap.size w v2) := below_tr HB.out hb2
  clear hb2 HK HB
  go_wp2
  go_ret
  exact ⟨rfl,HB2.out⟩
theorem HR.below {w w' : World} {r : RD} {ta : Option Addr} {tl : Nat} {ts : List TD} (h : HR w r ta tl ts) (hb : Below w.heap.size w w') : HR w' r ta tl ts := ⟨h.fit.below hb,txs_below h.txs hb,utabs_below h.tab hb⟩
structure HW (w v : World) (r : RD) (ta : Option Addr) (tl tc : Nat) (ts : List TD) : Prop where
  fb : FB w v (hearO r ta tl tc)
  hr : HR v r ta tl ts
theorem HW.under {w u v : World} {r : RD} {ta : Option Addr} {tl tc : Nat} {ts : List TD} (h : HW w u r ta tl tc ts) (hb : Below u.heap.size u v) : HW w v r ta tl tc ts := ⟨h.fb.under hb,h.hr.below hb⟩
end
end Go.Proofs.YtahccighonddaaaGreatDoor
namespace Go.Proofs.YtahccighonddaaaGreatDoor
open Go.RowKit
attribute [local go_sem ↓] Go.wp_at_zero Go.wp_at_succ
set_option linter.unusedSimpArgs false
set_option linter.unusedVariables false
def gath (p : ByteArray → Bool) : List ByteArray → Nat → Nat → List ByteArray → Nat × List ByteArray
  | [],_,b,acc => (b,acc)
  | s :: l,m,b,acc => if acc.length = m then (b,acc) else gath p l m (b + 1) (if p s then acc ++ [(readRes s).2.2.1] else acc)
theorem gath_cons {p : ByteArray → Bool} {s : ByteArray} {l : List ByteArray} {m b : Nat} {acc : List ByteArray} (h : acc.length ≠ m) : gath p (s :: l) m b acc = gath p l m (b + 1) (if p s then acc ++ [(readRes s).2.2.1] else acc) := if_neg h
theorem gath_full {p : ByteArray → Bool} {l : List ByteArray} {m b : Nat} {acc : List ByteArray} (h : acc.length = m) : gath p l m b acc = (b,acc) := by
  cases l with
  | nil => rfl
  | cons s l => exact if_pos h
theorem info_strG : (Tryz.prog.info? 9).map (fun i => (i.zero,i.size,i.bytes)) = some (some (.string ⟨#[]⟩),1,16) := by kernel_rfl
set_option maxRecDepth 100000 in
set_option maxHeartbeats 2000000 in
theorem impl_gather (K : Nat) (hv : Value) (f t : Int) (m : Nat) (R : List ByteArray) (p : ByteArray → Bool) (w : World)
    (hcf : ∀ (args : Array Value) (w : World),(callFunc K args).run Tryz.prog w = .ok (.enter K args) w)
    (hn : t - f = (R.length : Int) ∨ (t - f ≤ 0 ∧ R = [])) (hf : 0 ≤ f ∧ f ≤ 4000000) (ht : -4000000 ≤ t ∧ t ≤ 4000000) (hm : m ≤ 100)
    (hK : ∀ (j : Nat) (hj : j < R.length) (v : World),Below w.heap.size w v → Calls Tryz.prog K #[hv,.int .i64 (f + (j : Int))] v fun e v' => e = .returned (.tuple #[.string (readRes R[j]).2.2.1,.bool (p R[j])]) ∧ Below v.heap.size v v') :
    Calls Tryz.prog 176 #[.int .i64 f,.int .i64 t,.int .i64 (m : Int),.func (.func K) #[hv] #[]] w fun e w' => ∃ a c,e = .returned (.tuple #[.slice a (gath p R m 0 []).2.length c,.int .i64 (f + ((gath p R m 0 []).1 : Int))]) ∧ w'.ownsRow w.heap.size 9 1 (.slice a (gath p R m 0 []).2.length c) (gath p R m 0 []).2.length ((gath p R m 0 []).2.map Value.string) ∧ Below w.heap.size w w' := by
  obtain ⟨i0,hi0,hz0,hz1,hz2⟩ := info_parts info_strG
  obtain ⟨G,hG⟩ : ∃ G,gath p R m 0 [] = G := ⟨_,rfl⟩
  have HG : Hid (gath p R m 0 [] = G) := hG
  have HK : Hid (∀ (j : Nat) (hj : j < R.length) (v : World),Below w.heap.size w v → Calls Tryz.prog K #[hv,.int .i64 (f + (j : Int))] v fun e v' => e = .returned (.tuple #[.string (readRes R[j]).2.2.1,.bool (p R[j])]) ∧ Below v.heap.size v v') := hK
  have HN : Hid (t - f = (R.length : Int) ∨ (t - f ≤ 0 ∧ R = [])) := hn
  have hRl : R.length ≤ 8000000 := by
    rcases hn with h | ⟨_,h⟩
    · omega
    · rw [h]; exact Nat.zero_le _
  have hwd : IntKind.i64.wrap (t - f) = t - f := twrap_in _ (by omega) (by omega)
  rw [hG]
  clear hG hK hn
  obtain ⟨d,hd⟩ : ∃ d,t - f = d := ⟨_,rfl⟩
  have HN2 : Hid (d = (R.length : Int) ∨ (d ≤ 0 ∧ R = [])) := hd ▸ HN.out
  rw [hd] at hwd
  have HD : Hid (t - f = d) := hd
  clear HN
  go_enter Tryz.func176,Tryz.ntmps176
  go_wp2
  clear hd hwd
  go_loopw [10,11,19] (fun s b i wr => ∃ (k : Nat) (a : Option Addr) (c : Nat) (acc : List ByteArray),k ≤ R.length ∧ acc.length ≤ m ∧ i = .int .i64 (k : Int) ∧ b = .int .i64 (f + (k : Int)) ∧ s = .slice a acc.length c ∧ Hid (gath p (R.drop k) m k acc = G) ∧ Hid (wr.ownsRow w.heap.size 9 1 (.slice a acc.length c) acc.length (acc.map Value.string)) ∧ Hid (Below w.heap.size w wr)) (fun _ _ i _ => R.length - (intOf i).toNat)
  case atStart => exact ⟨0,none,0,[],by omega,by simp,rfl,by simp,rfl,HG.out,World.ownsRow_nil _ _ _ _,Below.refl _ _⟩
  case round =>
    obtain ⟨k,a,c,acc,hk,hacc,rfl,rfl,rfl,hg,ho,hb⟩ := hrel
    have hw1 : IntKind.i64.wrap (f + (k : Int)) = f + (k : Int) := twrap_in _ (by omega) (by omega)
    have hw2 : IntKind.i64.wrap (f + (k : Int) + 1) = f + (k : Int) + 1 := twrap_in _ (by omega) (by omega)
    by_cases hlt : k < R.length
    case neg =>
      have hkd : ¬ (k : Int) < d := by rcases HN2.out with h | ⟨h,_⟩ <;> omega
      have hGE : G = (k,acc) := by
        have h := hg.out
        rw [List.drop_eq_nil_of_le (by omega)] at h
        exact h.symm
      subst hGE
      go_wp2
      refine bodyPost_ret (v := .tuple #[.slice a acc.length c,.int .i64 (f + (k : Int))]) (by simp [results,Tryz.results176,go_sem]) rfl ?_
      exact ⟨a,c,rfl,ho.out,hb.out⟩
    case pos =>
    have hkd : (k : Int) < d := by
      rcases HN2.out with h | ⟨_,h⟩
      · omega
      · rw [h] at hlt; exact absurd hlt (Nat.not_lt_zero _)
    by_cases hfull : acc.length = m
    case pos =>
      have hfb : ((acc.length : Int) == (m : Int)) = true := by rw [beq_iff_eq]; omega
      have hGE : G = (k,acc) := hg.out.symm.trans (gath_full hfull)
      subst hGE
      clear hfull
      go_wp2
      refine bodyPost_ret (v := .tuple #[.slice a acc.length c,.int .i64 (f + (k : Int))]) (by simp [results,Tryz.results176,go_sem]) rfl ?_
      exact ⟨a,c,rfl,ho.out,hb.out⟩
    case neg =>
    have hfb : ((acc.length : Int) == (m : Int)) = false := by rw [beq_eq_false_iff_ne]; omega
    have HC : Hid _ := HK.out k hlt wr hb.out
    have hg2 := hg.out
    rw [List.drop_eq_getElem_cons hlt,gath_cons hfull] at hg2
    obtain ⟨s,hs⟩ : ∃ s,(readRes R[k]).2.2.1 = s := ⟨_,rfl⟩
    rw [hs] at HC hg2
    have hal : acc.length ≤ 99 := by omega
    cases hp : p R[k] with
    | true =>
      rw [hp] at HC hg2
      have HG2 : Hid (gath p (R.drop (k + 1)) m (k + 1) (acc ++ [s]) = G) := hg2
      clear hg2 hs hp
      go_wp2_with fail
      refine Calls.mono HC.out ?_
      rintro x w2 ⟨rfl,hb2⟩
      have HB2 : Hid (Below w.heap.size w w2) := below_tr hb.out hb2
      have HO2 : Hid (w2.ownsRow w.heap.size 9 1 (.slice a acc.length c) acc.length (acc.map Value.string)) := ho.out.kept (tbelow_grown hb2) (by by_cases hh : (Value.slice a acc.length c).ownBlock = none; exact .inl hh; exact .inr hh)
      clear hb2 HC
      go_wp2_with (at_builtin; refine wpList_append_own_any (by rfl) _ _ _ (by rfl) w.heap.size 9 i0 _ 1 16 Tryz.underlying43 hi0 hz0 hz1 hz2 (by rfl) (by omega) (.slice a acc.length c) acc.length _ (by rfl) (HO2.out.alloc _) (some ⟨w2.heap.size,0,none⟩) 1 1 [.string s] (by rfl) (by rfl) (fun e' => by cases e') (fun ad e' => by cases e'; exact World.news_of_block (cs := #[.string s]) (t := 9) (fr := (0,0)) (heap_alloc_new _ _)) (by simp [Value.oneCell']) (by unfold maxLen; omega) (by omega) (by have := HB2.out.size; simp; omega) ?_; intro v3 w3 ho3 hg3; have HO3 : Hid _ := ho3; have HG3 : Hid _ := hg3; clear ho3 hg3)
      have hb3 : Below w.heap.size w w3 := (HB2.out.alloc HB2.out.size _).grown HG3.out (by have := HB2.out.size; simp; omega) (fun i e => (HO2.out.lt i e).1)
      have hmp : (acc ++ [s]).map Value.string = acc.map Value.string ++ [.string s] := by simp
      have hln : (acc ++ [s]).length = acc.length + 1 := by simp
      have ho3 : w3.ownsRow w.heap.size 9 1 v3 (acc ++ [s]).length ((acc ++ [s]).map Value.string) := by
        rw [hmp,hln]
        exact HO3.out
      have hv3 : ∃ a3 c3,v3 = .slice a3 (acc ++ [s]).length c3 := by
        rcases ho3.2 with ⟨_,h0⟩ | ⟨g,cap,cur,e,_⟩
        · omega
        · exact ⟨_,_,e⟩
      obtain ⟨a3,c3,rfl⟩ := hv3
      exact ⟨⟨k + 1,a3,c3,acc ++ [s],by omega,by omega,by go_num,by go_num,rfl,HG2.out,ho3,hb3⟩,by simp [intOf]; omega⟩
    | false =>
      rw [hp] at HC hg2
      have HG2 : Hid (gath p (R.drop (k + 1)) m (k + 1) acc = G) := hg2
      clear hg2 hs hp
      go_wp2_with fail
      refine Calls.mono HC.out ?_
      rintro x w2 ⟨rfl,hb2⟩
      have hb3 : Below w.heap.size w w2 := below_tr hb.out hb2
      have ho3 : w2.ownsRow w.heap.size 9 1 (.slice a acc.length c) acc.length (acc.map Value.string) := ho.out.kept (tbelow_grown hb2) (by by_cases hh : (Value.slice a acc.length c).ownBlock = none; exact .inl hh; exact .inr hh)
      clear hb2 HC
      go_wp2
      exact ⟨⟨k + 1,a,c,acc,by omega,by omega,by go_num,by go_num,rfl,HG2.out,ho3,hb3⟩,by simp [intOf]; omega⟩
end Go.Proofs.YtahccighonddaaaGreatDoor
namespace Go.Proofs.YtahccighonddaaaGreatDoor
open Go.RowKit
attribute [local go_sem ↓] Go.wp_at_zero Go.wp_at_succ
set_option linter.unusedSimpArgs false
set_option linter.unusedVariables false
variable {ta : Option Addr} {tl tc : Nat}
end Go.Proofs.YtahccighonddaaaGreatDoor
namespace Go.Proofs.YtahccighonddaaaGreatDoor
open Go.RowKit Go.Maps
section
variable {w u v : World} {X : Nat} {ra : Option Addr} {rl rc : Nat} {ea : Option Addr} {el ec : Nat} {ta : Option Addr} {tl tc : Nat} {now : Int} {rs : List RD} {es : List Int} {ts : List TD}
theorem nodup_mid {l n r : List Nat} (h : (l ++ r).Nodup) (hn : n.Nodup) (hd : ∀ x ∈ l ++ r,∀ y ∈ n,x ≠ y) : ((l ++ n) ++ r).Nodup := by
  have h1 : ((l ++ r) ++ n).Nodup := nodup_two h hn hd
  refine (List.Perm.nodup_iff ?_).1 h1
  rw [List.append_assoc,List.append_assoc]
  exact List.Perm.append_left l List.perm_append_comm
theorem FO.ringE {a1 : Option Addr} {c1 b1 : Nat} {r : RD} (h : FO w u X ra rl rc ea el ec ta tl tc now rs es ts) (hr : r.own u b1) (hb1 : ∀ Z ∈ fabBlks rs ts ea,Z < b1) (hwb : w.heap.size ≤ b1)
    (ho : v.ownsRow w.heap.size 63 4 (.slice a1 (rl + 1) c1) (rl + 1) (rdCells rs ++ r.cells)) (hg : u.grownBy v (Value.slice ra rl rc).ownBlock) :
    v.heap[X]? = some (fabO ra rl rc ea el ec ta tl tc now) ∧ FO w (v.setCell ⟨X,0,none⟩ (.slice a1 (rl + 1) c1)) X a1 (rl + 1) c1 ea el ec ta tl tc now (rs ++ [r]) es ts := by
  rw [ownBlock_slice] at hg
  have hx : v.heap[X]? = some (fabO ra rl rc ea el ec ta tl tc now) := (hg.block _ (fb_lt h.x) (fun e => own_ne h.own.r h.x (by decide) e.symm)).trans h.x
  have hy : v.heap[w.heap.size]? = some (fabO none 0 0 none 0 0 none 0 0 0) := (hg.block _ (fb_lt h.y) (fun e => own_ne h.own.r h.y (by decide) e.symm)).trans h.y
  have hrow : ∀ (Z : Nat),blk? ra = some Z → ∃ C,u.heap[Z]? = some (.cells C 63 (0,0)) := fun Z hZ => own_typed h.own.r hZ
  have hri : ∀ q ∈ rs ++ [r],q.own v w.heap.size := fun q hq => by
    rcases List.mem_append.1 hq with hq | hq
    · exact (h.own.ri q hq).keep hg fun Z hZ e => by obtain ⟨C,hC⟩ := hrow Z e; exact (h.own.ri q hq).not hC (by decide) (by decide) hZ
    · rw [List.mem_singleton.1 hq]
      exact (hr.keep hg fun Z hZ e => by obtain ⟨C,hC⟩ := hrow Z e; exact hr.not hC (by decide) (by decide) hZ).mono hwb
  have hti : ∀ q ∈ ts,q.own v w.heap.size := fun q hq => (h.own.ti q hq).keep hg fun Z hZ e => by obtain ⟨C,hC⟩ := hrow Z e; exact (h.own.ti q hq).not hC (by decide) hZ
  have hor : ∀ {e size n c : Nat} {a : Option Addr} {xs : List Value},e ≠ 63 → u.ownsRow w.heap.size e size (.slice a n c) n xs → v.ownsRow w.heap.size e size (.slice a n c) n xs := fun hne hh => own_keep hh hg (by
    by_cases e : blk? ra = none
    · exact .inl e
    · obtain ⟨Z,hZ⟩ := Option.ne_none_iff_exists'.1 e
      exact .inr (by rw [hZ]; exact own_ne_own h.own.r hh hne.symm hZ))
  have hbel : Below w.heap.size w v := h.bel.grown hg h.bel.size (fun k e => (own_blk_lt h.own.r e).1)
  have hnd : (fabBlks (rs ++ [r]) ts ea).Nodup := by
    have h0 := h.own.nd
    simp only [fabBlks] at h0 hb1 ⊢
    rw [List.flatMap_append]
    refine nodup_mid h0 (by simpa using hr.nd) fun x hx y hy e => ?_
    have h1 := hb1 x hx
    have h2 := (hr.lt (by simpa using hy)).1
    omega
  have hF : OwnFab v w.heap.size a1 (rl + 1) c1 ea el ec ta tl tc (rs ++ [r]) es ts :=
    ⟨by rw [show rdCells (rs ++ [r]) = rdCells rs ++ r.cells by simp [rdCells]]; exact ho,hor (by decide) h.own.e,hor (by decide) h.own.t,hri,hti,hnd⟩
  have hgX := grown_setc v X 0 (.slice a1 (rl + 1) c1)
  exact ⟨hx,(hgX.block _ (fb_lt hy) (by have := h.lx; simp; omega)).trans hy,heap_setCell_same v X 0 _ _ _ hx,hF.box hx fab_ne hgX,h.lx,hbel.setCell (p := ⟨X,0,none⟩) (Nat.le_of_lt h.lx) _⟩
theorem FO.txnE {a1 : Option Addr} {c1 b1 : Nat} {t : TD} (h : FO w u X ra rl rc ea el ec ta tl tc now rs es ts) (hr : t.own u b1) (hb1 : ∀ Z ∈ fabBlks rs ts ea,Z < b1) (hwb : w.heap.size ≤ b1)
    (ho : v.ownsRow w.heap.size 59 6 (.slice a1 (tl + 1) c1) (tl + 1) (tdCells ts ++ t.cells)) (hg : u.grownBy v (Value.slice ta tl tc).ownBlock) :
    v.heap[X]? = some (fabO ra rl rc ea el ec ta tl tc now) ∧ FO w (v.setCell ⟨X,2,none⟩ (.slice a1 (tl + 1) c1)) X ra rl rc ea el ec a1 (tl + 1) c1 now rs es (ts ++ [t]) := by
  rw [ownBlock_slice] at hg
  have hx : v.heap[X]? = some (fabO ra rl rc ea el ec ta tl tc now) := (hg.block _ (fb_lt h.x) (fun e => own_ne h.own.t h.x (by decide) e.symm)).trans h.x
  have hy : v.heap[w.heap.size]? = some (fabO none 0 0 none 0 0 none 0 0 0) := (hg.block _ (fb_lt h.y) (fun e => own_ne h.own.t h.y (by decide) e.symm)).trans h.y
  have hrow : ∀ (Z : Nat),blk? ta = some Z → ∃ C,u.heap[Z]? = some (.cells C 59 (0,0)) := fun Z hZ => own_typed h.own.t hZ
  have hti : ∀ q ∈ ts ++ [t],q.own v w.heap.size := fun q hq => by
    rcases List.mem_append.1 hq with hq | hq
    · exact (h.own.ti q hq).keep hg fun Z hZ e => by obtain ⟨C,hC⟩ := hrow Z e; exact (h.own.ti q hq).not hC (by decide) hZ
    · rw [List.mem_singleton.1 hq]
      exact (hr.keep hg fun Z hZ e => by obtain ⟨C,hC⟩ := hrow Z e; exact hr.not hC (by decide) hZ).mono hwb
  have hri : ∀ q ∈ rs,q.own v w.heap.size := fun q hq => (h.own.ri q hq).keep hg fun Z hZ e => by obtain ⟨C,hC⟩ := hrow Z e; exact (h.own.ri q hq).not hC (by decide) (by decide) hZ
  have hor : ∀ {e size n c : Nat} {a : Option Addr} {xs : List Value},e ≠ 59 → u.ownsRow w.heap.size e size (.slice a n c) n xs → v.ownsRow w.heap.size e size (.slice a n c) n xs := fun hne hh => own_keep hh hg (by
    by_cases e : blk? ta = none
    · exact .inl e
    · obtain ⟨Z,hZ⟩ := Option.ne_none_iff_exists'.1 e
      exact .inr (by rw [hZ]; exact own_ne_own h.own.t hh hne.symm hZ))
  have hbel : Below w.heap.size w v := h.bel.grown hg h.bel.size (fun k e => (own_blk_lt h.own.t e).1)
  have hnd : (fabBlks rs (ts ++ [t]) ea).Nodup := by
    have h0 := h.own.nd
    simp only [fabBlks] at h0 hb1 ⊢
    rw [List.flatMap_append,← List.append_assoc,← List.append_assoc]
    rw [← List.append_assoc] at h0 hb1
    refine nodup_mid h0 (by simpa using hr.nd) fun x hx y hy e => ?_
    have h1 := hb1 x hx
    have h2 := (hr.lt (by simpa using hy)).1
    omega
  have hF : OwnFab v w.heap.size ra rl rc ea el ec a1 (tl + 1) c1 rs es (ts ++ [t]) :=
    ⟨hor (by decide) h.own.r,hor (by decide) h.own.e,by rw [show tdCells (ts ++ [t]) = tdCells ts ++ t.cells by simp [tdCells]]; exact ho,hri,hti,hnd⟩
  have hgX := grown_setc v X 2 (.slice a1 (tl + 1) c1)
  exact ⟨hx,(hgX.block _ (fb_lt hy) (by have := h.lx; simp; omega)).trans hy,heap_setCell_same v X 2 _ _ _ hx,hF.box hx fab_ne hgX,h.lx,hbel.setCell (p := ⟨X,2,none⟩) (Nat.le_of_lt h.lx) _⟩
end
end Go.Proofs.YtahccighonddaaaGreatDoor
namespace Go.Proofs.YtahccighonddaaaGreatDoor
open Go.RowKit
set_option linter.unusedSimpArgs false
set_option linter.unusedVariables false
theorem flat_set_mem {α : Type} {f : α → List Nat} {l : List α} {k : Nat} {t : α} {x : Nat} (h : x ∈ (l.set k t).flatMap f) : x ∈ l.flatMap f ∨ x ∈ f t := by
  obtain ⟨y,hy,hx⟩ := List.mem_flatMap.1 h
  rcases List.mem_or_eq_of_mem_set hy with hy | rfl
  · exact .inl (List.mem_flatMap.2 ⟨y,hy,hx⟩)
  · exact .inr hx
theorem flat_set_nodup {α : Type} {f : α → List Nat} {l : List α} {k b : Nat} {t0 t : α} (h : (l.flatMap f).Nodup) (hk : l[k]? = some t0) (ht : (f t).Nodup) (hlt : ∀ x ∈ l.flatMap f,x < b) (hn : ∀ y ∈ f t,y ∈ f t0 ∨ b ≤ y) : ((l.set k t).flatMap f).Nodup := by
  induction l generalizing k with
  | nil => simp at hk
  | cons z l ih =>
    rw [List.flatMap_cons] at h hlt
    obtain ⟨n1,n2,n3⟩ := List.nodup_append.1 h
    cases k with
    | zero =>
      simp only [List.getElem?_cons_zero,Option.some.injEq] at hk
      subst hk
      rw [List.set_cons_zero,List.flatMap_cons]
      refine List.nodup_append.2 ⟨ht,n2,fun x hx y hy e => ?_⟩
      subst e
      rcases hn x hx with h1 | h1
      · exact n3 x h1 x hy rfl
      · have := hlt x (List.mem_append.2 (.inr hy)); omega
    | succ k =>
      rw [List.getElem?_cons_succ] at hk
      rw [List.set_cons_succ,List.flatMap_cons]
      refine List.nodup_append.2 ⟨n1,ih n2 hk fun x hx => hlt x (List.mem_append.2 (.inr hx)),fun x hx y hy e => ?_⟩
      subst e
      rcases flat_set_mem hy with h1 | h1
      · exact n3 x hx x h1 rfl
      · rcases hn x h1 with h2 | h2
        · exact n3 x hx x (List.mem_flatMap.2 ⟨t0,List.mem_of_getElem? hk,h2⟩) rfl
        · have := hlt x (List.mem_append.2 (.inl hx)); omega
theorem flat_set_new {α : Type} {f : α → List Nat} {l : List α} {k b : Nat} {t0 t : α} (hk : l[k]? = some t0) (hn : ∀ y ∈ f t,y ∈ f t0 ∨ b ≤ y) {x : Nat} (hx : x ∈ (l.set k t).flatMap f) : x ∈ l.flatMap f ∨ b ≤ x := by
  rcases flat_set_mem hx with h | h
  · exact .inl h
  · rcases hn x h with h | h
    · exact .inl (List.mem_flatMap.2 ⟨t0,List.mem_of_getElem? hk,h⟩)
    · exact .inr h
theorem nd_A {A A' B : List Nat} {b : Nat} (h : (A ++ B).Nodup) (ha : A'.Nodup) (hlt : ∀ x ∈ A ++ B,x < b) (hn : ∀ x ∈ A',x ∈ A ∨ b ≤ x) : (A' ++ B).Nodup := by
  obtain ⟨n1,n2,n3⟩ := List.nodup_append.1 h
  refine List.nodup_append.2 ⟨ha,n2,fun x hx y hy e => ?_⟩
  subst e
  rcases hn x hx with h1 | h1
  · exact n3 x h1 x hy rfl
  · have := hlt x (List.mem_append.2 (.inr hy)); omega
theorem fab_setR {rs : List RD} {ts : List TD} {ea : Option Addr} {k b : Nat} {t0 t : RD} (h : (fabBlks rs ts ea).Nodup) (hk : rs[k]? = some t0) (ht : t.blks.Nodup) (hlt : ∀ x ∈ fabBlks rs ts ea,x < b) (hn : ∀ y ∈ t.blks,y ∈ t0.blks ∨ b ≤ y) : (fabBlks (rs.set k t) ts ea).Nodup := by
  have n1 := (List.nodup_append.1 h).1
  exact nd_A h (flat_set_nodup n1 hk ht (fun x hx => hlt x (List.mem_append.2 (.inl hx))) hn) hlt fun x hx => flat_set_new hk hn hx
section
variable {d : FD} {u v : World} {base tb k b1 : Nat}
def FD.setR (d : FD) (k : Nat) (r : RD) : FD := ⟨d.ra,d.rl,d.rc,d.ea,d.el,d.ec,d.ta,d.tl,d.tc,d.rs.set k r,d.es,d.ts⟩
theorem rdCells_set (l : List RD) (k : Nat) (hk : k < l.length) (t : RD) :
    rdCells (l.set k t) = ((((rdCells l).set (k * 4) (.int .i64 t.cap)).set (k * 4 + 1) (.int .i64 t.first)).set (k * 4 + 2) (.slice t.ra t.rl t.rc)).set (k * 4 + 3) (.slice t.ca t.cl t.cc) := by
  have hl : (rdCells l).length = l.length * 4 := rdCells_length l
  apply List.ext_getElem?
  intro j
  have h1 : (rdCells (l.set k t))[j]? = if k * 4 ≤ j ∧ j < k * 4 + 4 then t.cells[j - k * 4]? else (rdCells l)[j]? := pack_set RD.cells 4 (fun _ => rfl) l k hk t j
  rw [h1]
  simp only [List.getElem?_set,List.length_set,hl]
  by_cases h : k * 4 ≤ j ∧ j < k * 4 + 4
  · rw [if_pos h]
    obtain ⟨d,hd⟩ : ∃ d,j = k * 4 + d := ⟨j - k * 4,by omega⟩
    subst hd
    have hd4 : d < 4 := by omega
    rw [show k * 4 + d - k * 4 = d by omega]
    rcases (by omega : d = 0 ∨ d = 1 ∨ d = 2 ∨ d = 3) with rfl | rfl | rfl | rfl <;> simp [RD.cells] <;> omega
  · rw [if_neg h,if_neg (by omega),if_neg (by omega),if_neg (by omega),if_neg (by omega)]
theorem FD.own.setR {t0 t : RD} (h : d.own u base) (hra : d.ra = some ⟨tb,0,none⟩) (hk : d.rs[k]? = some t0) (ht : t.own u base) (hn : ∀ y ∈ t.blks,y ∈ t0.blks ∨ b1 ≤ y) (hlt : ∀ x ∈ fabBlks d.rs d.ts d.ea,x < b1) :
    (d.setR k t).own (set4 u tb (k * 4) (.int .i64 t.cap) (.int .i64 t.first) (.slice t.ra t.rl t.rc) (.slice t.ca t.cl t.cc)) base := by
  have hkl := (List.getElem?_eq_some_iff.1 hk).1
  have hb : blk? d.ra = some tb := by rw [hra]; rfl
  obtain ⟨C,hC⟩ := own_typed h.r hb
  have hg := grown_set4 u tb (k * 4) (.int .i64 t.cap) (.int .i64 t.first) (.slice t.ra t.rl t.rc) (.slice t.ca t.cl t.cc)
  refine ⟨?_,own_keep h.e hg (.inr (own_ne_own h.r h.e (by decide) hb)),own_keep h.t hg (.inr (own_ne_own h.r h.t (by decide) hb)),fun q hq => ?_,fun q hq => (h.ti q hq).keep hg fun X hX e => ?_,fab_setR h.nd hk ht.nd hlt hn⟩
  · show World.ownsRow _ _ _ _ (.slice d.ra d.rl d.rc) d.rl (rdCells (d.rs.set k t))
    rw [rdCells_set d.rs k hkl t]
    have h1 := h.r
    rw [hra] at h1 ⊢
    exact own_set4 h1 k _ _ _ _
  · have hq0 : q.own u base := by
      rcases List.mem_or_eq_of_mem_set hq with hq | rfl
      · exact h.ri q hq
      · exact ht
    exact hq0.keep hg fun X hX e => by cases e; exact hq0.not hC (by decide) (by decide) hX
  · cases e; exact (h.ti q hq).not hC (by decide) hX
end
end Go.Proofs.YtahccighonddaaaGreatDoor
namespace Go.Proofs.YtahccighonddaaaGreatDoor
open Go.RowKit Go.Maps
attribute [local go_sem ↓] Go.wp_at_zero Go.wp_at_succ
set_option linter.unusedSimpArgs false
set_option linter.unusedVariables false
theorem off_new {w : World} {base e size n c : Nat} {a : Option Addr} {xs : List Value} (h : w.ownsRow base e size (.slice a n c) n xs) {X : Nat} (hX : X < base) : Off X a := fun x e he => by
  have := own_blk_lt h (X := x.block) (by rw [e]; rfl)
  omega
end Go.Proofs.YtahccighonddaaaGreatDoor
