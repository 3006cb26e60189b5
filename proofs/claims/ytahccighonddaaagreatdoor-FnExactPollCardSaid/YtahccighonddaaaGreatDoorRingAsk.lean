import Derived.Test.YtahccighonddaaaGreatDoorRingWork6
import Derived.Test.YtahccighonddaaaGreatDoorRecBytes
import Derived.RangeFuncNested
import Derived.RangeFuncBound
import Derived.RangeFuncCalls
import Derived.RangeFuncLeaves
import Derived.Shelf.Abstract
import Derived.Shelf.RegionOpen
import Derived.WalkKit
import Derived.OwnWalkIn
import Derived.TacticsInMore
import Derived.LoopNIn
import Derived.LoopIn
import Derived.Test.YtahccighonddaaaGreatDoorRingMath
import Derived.Test.YtahccighonddaaaGreatDoorRingSpec1
namespace Go.Proofs.YtahccighonddaaaGreatDoor
open Go.RowKit Go.Shelf
attribute [local go_sem] Oper.semAt_some
variable {cap first : Int} {ra ca : Option Addr} {rl rc cl cc : Nat}
def recOf (s : ByteArray) : Int × Int × ByteArray := ((readRes s).1,(readRes s).2.1,(readRes s).2.2.1)
theorem readRes_cases (s : ByteArray) : (∃ c,c ≠ 0 ∧ readRes s = (0,0,⟨#[]⟩,c)) ∨ (∃ k t d,readRes s = (k,t,d,0) ∧ recRightB k t d = true) := by
  unfold readRes
  split
  · exact .inl ⟨2,by omega,rfl⟩
  split
  · exact .inl ⟨4,by omega,rfl⟩
  split
  · exact .inl ⟨5,by omega,rfl⟩
  · rcases recOfRes_cases (s.extract 0 (s.size - 4)) with h | ⟨k,t,d,h,hr,hk⟩
    · rw [h]; exact .inl ⟨3,by omega,rfl⟩
    · rw [h]
      refine .inr ⟨k,t,d,?_,hr⟩
      show (if k = 0 then _ else _) = _
      rw [if_neg hk]
theorem recOf_small (s : ByteArray) : (recOf s).2.2.size ≤ 16 := by
  unfold recOf
  rcases readRes_cases s with ⟨c,_,h⟩ | ⟨k,t,d,h,hr⟩
  · rw [h]; exact Nat.zero_le _
  · rw [h]
    simp [recRightB] at hr
    exact hr.1.2
abbrev PRec := { x : Int × Int × Int × ByteArray // x.2.2.2.size ≤ 16 }
abbrev encP (x : PRec) : Array Value := #[.int .i64 x.1.1,recV x.1.2.1 x.1.2.2.1 x.1.2.2.2]
def pRec (first : Int) (recs : List ByteArray) (j : Nat) : PRec := ⟨(first + (j : Int),recOf (recs.getD j ⟨#[]⟩)),recOf_small _⟩
def upto {α : Type} (f : Nat → α) (k : Nat) : List α := (List.range k).map f
theorem upto_succ {α : Type} (f : Nat → α) (k : Nat) : upto f (k + 1) = upto f k ++ [f k] := by simp [upto,List.range_succ]
theorem upto_length {α : Type} (f : Nat → α) (k : Nat) : (upto f k).length = k := by simp [upto]
theorem impl_recs (b : Nat) (w : World) :
    Calls Tryz.prog 209 #[.pointer (some ⟨b,0,none⟩)] w fun e w' => e = .returned (.func (.func 232) #[] #[.pointer (some ⟨w.heap.size,0,none⟩)]) ∧ w' = w.alloc (.cells #[.pointer (some ⟨b,0,none⟩)] 155) := by
  have hmf : ∀ (fn : Fn) (first cap : Array Value) (w : World),(Instr.makeFunc fn first cap).run Tryz.prog w = .ok (.func fn first cap) w := fun _ _ _ _ => rfl
  go_enter Tryz.func209,Tryz.ntmps209
  go_wp2
  go_ret
  exact ⟨rfl,rfl⟩
theorem field_rec (k t : Int) (d : ByteArray) (c : Int) (w : World) : (Instr.field 164 (recOut k t d c) 0).run Tryz.prog w = .ok (recV k t d) w := by kernel_rfl
def Out (n₀ : Nat) (J Jx : List PRec → World → Prop) (pre : List PRec) (W : World) (v : Bool) (W' : World) : Prop := (v = true ∧ J pre W' ∧ Below n₀ W W') ∨ (v = false ∧ Jx pre W')
end Go.Proofs.YtahccighonddaaaGreatDoor
namespace Go.Proofs.YtahccighonddaaaGreatDoor
open Go.RowKit Go.Shelf
attribute [local go_sem] Oper.semAt_some
variable {cap first : Int} {ra ca : Option Addr} {rl rc cl cc : Nat}
def pRight (x : PRec) : Bool := recRightB x.1.2.1 x.1.2.2.1 x.1.2.2.2
theorem pRight_at (first : Int) (recs : List ByteArray) (j : Nat) (h : j < recs.length) : pRight (pRec first recs j) = recOkB recs[j] := by
  have hg : recs.getD j ⟨#[]⟩ = recs[j] := by simp [h]
  unfold pRight pRec recOkB
  simp only [hg]
  unfold recOf
  rcases readRes_cases recs[j] with ⟨c,hc,h⟩ | ⟨k,t,d,h,hr⟩
  · rw [h]; simp [recRightB,hc]
  · rw [h]; simp [hr]
theorem recsOk_yes (first : Int) (recs : List ByteArray) (h : ∀ y ∈ upto (pRec first recs) recs.length,pRight y = true) : recsOk recs = true := by
  unfold recsOk
  rw [List.all_eq_true]
  intro s hs
  obtain ⟨j,hj,rfl⟩ := List.getElem_of_mem hs
  rw [← pRight_at first recs j hj]
  exact h _ (by unfold upto; exact List.mem_map.2 ⟨j,List.mem_range.2 hj,rfl⟩)
theorem recsOk_no (first : Int) (recs : List ByteArray) (k : Nat) (hk : k ≤ recs.length) (h : ∃ y ∈ upto (pRec first recs) k,pRight y = false) : recsOk recs = false := by
  obtain ⟨y,hy,hf⟩ := h
  unfold upto at hy
  obtain ⟨j,hj,rfl⟩ := List.mem_map.1 hy
  have hj' : j < recs.length := by have := List.mem_range.1 hj; omega
  rw [pRight_at first recs j hj'] at hf
  unfold recsOk
  rw [List.all_eq_false]
  exact ⟨recs[j],List.getElem_mem hj',by simp [hf]⟩
theorem heap_own {W W' : World} {row : Option Nat} {B : Nat} {cs : Array Value} {t : TypeId} (h : W.heap[B]? = some (.cells cs t (0,0))) (hg : W.grownBy W' row) (hr : ∀ r,row = some r → ∃ o : Obj,W.heap[r]? = some o ∧ o.isCells = false) : W'.heap[B]? = some (.cells cs t (0,0)) := by
  refine (hg.block B (Array.getElem?_eq_some_iff.1 h).1 (fun e => ?_)).trans h
  obtain ⟨o,ho,hc⟩ := hr B e.symm
  rw [h] at ho
  cases ho
  simp [Obj.isCells] at hc
end Go.Proofs.YtahccighonddaaaGreatDoor
namespace Go.Proofs.YtahccighonddaaaGreatDoor
open Go.RowKit
variable {cap first : Int} {ra ca : Option Addr} {rl rc cl cc : Nat}
theorem cursOk_iff (first fin : Int) (l : List (Int × Int)) : ∀ p : Option Int,cursOk first fin p l = true ↔
    (∀ c ∈ l,(1 ≤ c.1 ∧ c.1 ≤ 9) ∧ (first ≤ c.2 ∧ c.2 ≤ fin)) ∧ (∀ q,p = some q → ∀ c,l.head? = some c → q < c.1) ∧ (∀ j,∀ (h : j + 1 < l.length),l[j].1 < l[j + 1].1) := by
  induction l with
  | nil => intro p; simp [cursOk]
  | cons c r ih =>
    intro p
    have e : cursOk first fin p (c :: r) = (decide (1 ≤ c.1 ∧ c.1 ≤ 9) && decide (first ≤ c.2 ∧ c.2 ≤ fin) && (match p with | none => true | some q => decide (q < c.1)) && cursOk first fin (some c.1) r) := rfl
    rw [e]
    simp only [Bool.and_eq_true,decide_eq_true_eq,ih]
    constructor
    · rintro ⟨⟨⟨h1,h2⟩,h3⟩,h4,h5,h6⟩
      refine ⟨fun x hx => ?_,fun q hq x hx => ?_,fun j hj => ?_⟩
      · rcases List.mem_cons.1 hx with rfl | hx
        · exact ⟨h1,h2⟩
        · exact h4 x hx
      · subst hq
        simp at hx
        subst hx
        simpa using h3
      · cases j with
        | zero =>
          have hr0 : 0 < r.length := by simpa using hj
          have : r.head? = some (r[0]'hr0) := by rw [List.head?_eq_getElem?]; exact List.getElem?_eq_getElem hr0
          exact h5 c.1 rfl _ this
        | succ i => exact h6 i (by simpa using hj)
    · rintro ⟨h1,h2,h3⟩
      refine ⟨⟨⟨(h1 c (by simp)).1,(h1 c (by simp)).2⟩,?_⟩,fun x hx => h1 x (by simp [hx]),fun q hq x hx => ?_,fun j hj => ?_⟩
      · cases p with
        | none => rfl
        | some q => simpa using h2 q rfl c rfl
      · cases hq
        cases r with
        | nil => simp at hx
        | cons y t =>
          simp at hx
          subst hx
          exact h3 0 (by simp)
      · exact h3 (j + 1) (by simpa using hj)
theorem foldl_min_le (l : List (Int × Int)) : ∀ n,l.foldl (fun n x => min n x.2) n ≤ n ∧ ∀ c ∈ l,l.foldl (fun n x => min n x.2) n ≤ c.2 := by
  induction l with
  | nil => intro n; simp
  | cons x r ih =>
    intro n
    have h := ih (min n x.2)
    refine ⟨?_,fun c hc => ?_⟩
    · have := h.1; simp only [List.foldl_cons]; omega
    · simp only [List.foldl_cons]
      rcases List.mem_cons.1 hc with rfl | hc
      · have := h.1; omega
      · exact h.2 c hc
theorem curLeast_le (first : Int) (l : List (Int × Int)) (c : Int × Int) (h : c ∈ l) : curLeast first l ≤ c.2 := by
  cases l with
  | nil => simp at h
  | cons x r => exact (foldl_min_le (x :: r) x.2).2 c h
theorem risesB_iff (l : List (Int × Int)) : risesB l = true ↔ ∀ j,∀ (h : j + 1 < l.length),l[j].1 < l[j + 1].1 := by
  unfold risesB
  rw [decide_eq_true_eq]
  exact ⟨fun h j hj => h j (by omega) hj,fun h j _ hj => h j hj⟩
theorem curRight_eq (first fin : Int) (l : List (Int × Int)) : curRight first fin l = (cursOk first fin none l && decide (curLeast first l = first)) := by
  rw [Bool.eq_iff_iff]
  simp only [curRight,Bool.and_eq_true,decide_eq_true_eq,cursOk_iff,risesB_iff,List.all_eq_true,curIn]
  constructor
  · rintro ⟨⟨h1,h2⟩,h3⟩
    refine ⟨⟨fun c hc => ?_,fun q hq => by simp at hq,h2⟩,h3⟩
    have := curLeast_le first l c hc
    exact ⟨(h1 c hc).1,by omega,(h1 c hc).2⟩
  · rintro ⟨⟨h1,_,h2⟩,h3⟩
    exact ⟨⟨fun c hc => ⟨(h1 c hc).1,(h1 c hc).2.2⟩,h2⟩,h3⟩
theorem ringRight_eq (cap first : Int) (recs : List ByteArray) (curs : List (Int × Int)) : ringRightB cap first recs curs = (sizesB cap first recs.length curs.length && recsOk recs && curRight first (first + (recs.length : Int)) curs) := by
  rw [curRight_eq]
  simp only [ringRightB,sizesB,Bool.and_assoc]
theorem Still.refl {w : World} {b : Nat} {d l : Int} {curs : List (Int × Int)} (hw : Work w b cap first ra rl rc ca cl cc d 0 l) (hk : Known first curs d l) : Still w w b cap first ra rl rc ca cl cc curs := ⟨grown_of_below (Below.refl _ _) _,d,l,hw,hk⟩
theorem Still.below {w w1 : World} {b : Nat} {d l : Int} {curs : List (Int × Int)} (hb : Below w.heap.size w w1) (hw : Work w b cap first ra rl rc ca cl cc d 0 l) (hk : Known first curs d l) : Still w w1 b cap first ra rl rc ca cl cc curs := ⟨grown_of_below hb _,d,l,hw.below hb,hk⟩
structure Came (w : World) (n b : Nat) (ra : Option Addr) (rl : Nat) (ca : Option Addr) (cl : Nat) (recs : List ByteArray) (curs : List (Int × Int)) : Prop where
  strs : Strs w ra rl recs
  curs : Curs w ca cl curs
  rlt : ∀ x,ra = some x → x.block < n
  clt : ∀ x,ca = some x → x.block < n
  roff : Off b ra
  coff : Off b ca
  sz : ∀ s ∈ recs,s.size ≤ maxLen
  rle : rl ≤ 1048576
  cle : cl ≤ 1048576
theorem Came.below {w w' : World} {n b : Nat} {recs : List ByteArray} {curs : List (Int × Int)} (h : Came w n b ra rl ca cl recs curs) (hb : Below w.heap.size w w') : Came w' n b ra rl ca cl recs curs :=
  ⟨strs_below h.strs hb,curs_below h.curs hb,h.rlt,h.clt,h.roff,h.coff,h.sz,h.rle,h.cle⟩
theorem Came.grown {w w' : World} {n b : Nat} {recs : List ByteArray} {curs : List (Int × Int)} (h : Came w n b ra rl ca cl recs curs) (hg : w.grownBy w' (some b)) : Came w' n b ra rl ca cl recs curs :=
  ⟨strs_grown h.strs hg h.roff,curs_grown h.curs hg h.coff,h.rlt,h.clt,h.roff,h.coff,h.sz,h.rle,h.cle⟩
end Go.Proofs.YtahccighonddaaaGreatDoor
namespace Go.Proofs.YtahccighonddaaaGreatDoor
open Go.RowKit
variable {cap first : Int} {ra ca : Option Addr} {rl rc cl cc : Nat}
structure RIn (w : World) (ra : Option Addr) (rl rc : Nat) (ca : Option Addr) (cl cc : Nat) (recs : List ByteArray) (curs : List (Int × Int)) : Prop where
  strs : Strs w ra rl recs
  curs : Curs w ca cl curs
  rlt : ∀ x,ra = some x → x.block < w.heap.size
  clt : ∀ x,ca = some x → x.block < w.heap.size
  rnil : ra = none → rl = 0 ∧ rc = 0
  cnil : ca = none → cl = 0 ∧ cc = 0
  sz : ∀ s ∈ recs,s.size ≤ 1048576
  rle : rl ≤ 1048576
  cle : cl ≤ 1048576
theorem RIn.below {w w' : World} {recs : List ByteArray} {curs : List (Int × Int)} (h : RIn w ra rl rc ca cl cc recs curs) (hb : Below w.heap.size w w') : RIn w' ra rl rc ca cl cc recs curs :=
  ⟨strs_below h.strs hb,curs_below h.curs hb,fun x e => Nat.lt_of_lt_of_le (h.rlt x e) hb.size,fun x e => Nat.lt_of_lt_of_le (h.clt x e) hb.size,h.rnil,h.cnil,h.sz,h.rle,h.cle⟩
theorem RIn.sz' {w : World} {recs : List ByteArray} {curs : List (Int × Int)} (h : RIn w ra rl rc ca cl cc recs curs) : ∀ s ∈ recs,s.size ≤ maxLen := fun s hs => by have := h.sz s hs; unfold maxLen; omega
theorem RIn.came {w w' : World} {b : Nat} {recs : List ByteArray} {curs : List (Int × Int)} (h : RIn w ra rl rc ca cl cc recs curs) (hb : Below w.heap.size w w') (hbb : w.heap.size ≤ b) : Came w' w'.heap.size b ra rl ca cl recs curs :=
  ⟨strs_below h.strs hb,curs_below h.curs hb,fun x e => Nat.lt_of_lt_of_le (h.rlt x e) hb.size,fun x e => Nat.lt_of_lt_of_le (h.clt x e) hb.size,fun x e => by have := h.rlt x e; omega,fun x e => by have := h.clt x e; omega,h.sz',h.rle,h.cle⟩
theorem below_grown_new {w u v : World} {b : Nat} (h : Below w.heap.size w u) (hg : u.grownBy v (some b)) (hb : w.heap.size ≤ b) : Below w.heap.size w v := h.grown hg h.size (fun k e => by cases e; exact hb)
structure Asked (w w' : World) (b : Nat) (cap first : Int) (ra : Option Addr) (rl rc : Nat) (ca : Option Addr) (cl cc : Nat) (curs : List (Int × Int)) : Prop where
  below : Below w.heap.size w w'
  new : w.heap.size ≤ b
  work : ∃ d l,Work w' b cap first ra rl rc ca cl cc d 0 l ∧ Known first curs d l
theorem right_first {recs : List ByteArray} {curs : List (Int × Int)} (h : ringRightB cap first recs curs = true) : (0 ≤ first ∧ first ≤ 1000000) ∧ (4 ≤ cap ∧ cap ≤ 16) ∧ (recs.length : Int) ≤ cap ∧ first + (recs.length : Int) ≤ 1000000 ∧ curs.length ≤ 4 := by
  rw [ringRight_eq] at h
  simp only [Bool.and_eq_true,sizesB,decide_eq_true_eq] at h
  exact ⟨h.1.1.1.1.1.2,capB_le h.1.1.1.1.1.1,h.1.1.1.1.2,h.1.1.1.2,h.1.1.2⟩
theorem spec_room (cap first : Int) (ra : Option Addr) (rl rc : Nat) (ca : Option Addr) (cl cc : Nat) (w : World) (h : 0 ≤ cap ∧ cap ≤ 1000000) (hl : rl ≤ 1048576) :
    Calls Tryz.prog 34 #[ringV cap first ra rl rc ca cl cc] w fun e w' => e = .returned (.int .i64 (cap - (rl : Int))) ∧ Below w.heap.size w w' := by
  go_enter Tryz.func34,Tryz.ntmps34
  go_wp2
  go_ret
  exact ⟨rfl,(Below.refl _ _).alloc (Nat.le_refl _) _⟩
end Go.Proofs.YtahccighonddaaaGreatDoor
