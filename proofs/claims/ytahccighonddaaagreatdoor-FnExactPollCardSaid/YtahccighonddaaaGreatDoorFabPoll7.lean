import Derived.Test.YtahccighonddaaaGreatDoorFabOwnSet2
import Derived.Test.YtahccighonddaaaGreatDoorLawCall
import Derived.Test.YtahccighonddaaaGreatDoorRingPut2
import Derived.Deep.LoopGhost
import Derived.WalkMore
import Derived.Deep.RegionHeld3
import Derived.Deep.DrawnRows
import Derived.Test.YtahccighonddaaaGreatDoorRingFault
import Derived.Test.YtahccighonddaaaGreatDoorLocks
namespace Go.Proofs.YtahccighonddaaaGreatDoor
open Go.RowKit Go.Maps
attribute [local go_sem ↓] Go.wp_at_zero Go.wp_at_succ
set_option linter.unusedSimpArgs false
set_option linter.unusedVariables false
variable {aN aF aR aS aM aL : Addr}
end Go.Proofs.YtahccighonddaaaGreatDoor
namespace Go.Proofs.YtahccighonddaaaGreatDoor
open Go.RowKit Go.Maps
attribute [local go_sem ↓] Go.wp_at_zero Go.wp_at_succ
set_option linter.unusedSimpArgs false
set_option linter.unusedVariables false
variable {aN aF aR aS aM aL : Addr}
theorem own_fitR {w : World} {base n q m p : Nat} {a b : Option Addr} {recs : List ByteArray} {curs : List (Int × Int)} (h : OwnRing w base a n q b m p (recs.map Value.string) (curCells curs)) (hs : ∀ s ∈ recs,s.size ≤ 1048576) (hn : n ≤ 1048576) (hm : m ≤ 1048576) : RFit w a n q b m p recs curs := by
  obtain ⟨a1,q1,e1,h1⟩ := own_strIn h.1
  obtain ⟨a2,q2,e2,h2⟩ := own_curIn h.2
  simp only [Value.slice.injEq] at e1 e2
  obtain ⟨rfl,_,rfl⟩ := e1
  obtain ⟨rfl,_,rfl⟩ := e2
  exact ⟨h1,h2,hs,hn,hm,nown_capMax h.1,nown_capMax h.2⟩
theorem out_put8 (W : World) (Y : Nat) (u0 u1 u2 u3 u4 u5 u6 u7 v0 v1 v2 v3 v4 v5 v6 v7 : Value) (t : TypeId) (h : W.heap[Y]? = some (.cells #[u0,u1,u2,u3,u4,u5,u6,u7] t (0,0))) : (set8 W Y v0 v1 v2 v3 v4 v5 v6 v7).heap[Y]? = some (.cells #[v0,v1,v2,v3,v4,v5,v6,v7] t (0,0)) := by
  have h0 : (W.setCell ⟨Y,0,none⟩ v0).heap[Y]? = some (.cells #[v0,u1,u2,u3,u4,u5,u6,u7] t (0,0)) := heap_setCell_same W Y 0 _ _ v0 h
  have h1 : ((W.setCell ⟨Y,0,none⟩ v0).setCell ⟨Y,1,none⟩ v1).heap[Y]? = some (.cells #[v0,v1,u2,u3,u4,u5,u6,u7] t (0,0)) := heap_setCell_same (W.setCell ⟨Y,0,none⟩ v0) Y 1 _ _ v1 h0
  have h2 : (((W.setCell ⟨Y,0,none⟩ v0).setCell ⟨Y,1,none⟩ v1).setCell ⟨Y,2,none⟩ v2).heap[Y]? = some (.cells #[v0,v1,v2,u3,u4,u5,u6,u7] t (0,0)) := heap_setCell_same ((W.setCell ⟨Y,0,none⟩ v0).setCell ⟨Y,1,none⟩ v1) Y 2 _ _ v2 h1
  have h3 : ((((W.setCell ⟨Y,0,none⟩ v0).setCell ⟨Y,1,none⟩ v1).setCell ⟨Y,2,none⟩ v2).setCell ⟨Y,3,none⟩ v3).heap[Y]? = some (.cells #[v0,v1,v2,v3,u4,u5,u6,u7] t (0,0)) := heap_setCell_same (((W.setCell ⟨Y,0,none⟩ v0).setCell ⟨Y,1,none⟩ v1).setCell ⟨Y,2,none⟩ v2) Y 3 _ _ v3 h2
  have h4 : (((((W.setCell ⟨Y,0,none⟩ v0).setCell ⟨Y,1,none⟩ v1).setCell ⟨Y,2,none⟩ v2).setCell ⟨Y,3,none⟩ v3).setCell ⟨Y,4,none⟩ v4).heap[Y]? = some (.cells #[v0,v1,v2,v3,v4,u5,u6,u7] t (0,0)) := heap_setCell_same ((((W.setCell ⟨Y,0,none⟩ v0).setCell ⟨Y,1,none⟩ v1).setCell ⟨Y,2,none⟩ v2).setCell ⟨Y,3,none⟩ v3) Y 4 _ _ v4 h3
  have h5 : ((((((W.setCell ⟨Y,0,none⟩ v0).setCell ⟨Y,1,none⟩ v1).setCell ⟨Y,2,none⟩ v2).setCell ⟨Y,3,none⟩ v3).setCell ⟨Y,4,none⟩ v4).setCell ⟨Y,5,none⟩ v5).heap[Y]? = some (.cells #[v0,v1,v2,v3,v4,v5,u6,u7] t (0,0)) := heap_setCell_same (((((W.setCell ⟨Y,0,none⟩ v0).setCell ⟨Y,1,none⟩ v1).setCell ⟨Y,2,none⟩ v2).setCell ⟨Y,3,none⟩ v3).setCell ⟨Y,4,none⟩ v4) Y 5 _ _ v5 h4
  have h6 : (((((((W.setCell ⟨Y,0,none⟩ v0).setCell ⟨Y,1,none⟩ v1).setCell ⟨Y,2,none⟩ v2).setCell ⟨Y,3,none⟩ v3).setCell ⟨Y,4,none⟩ v4).setCell ⟨Y,5,none⟩ v5).setCell ⟨Y,6,none⟩ v6).heap[Y]? = some (.cells #[v0,v1,v2,v3,v4,v5,v6,u7] t (0,0)) := heap_setCell_same ((((((W.setCell ⟨Y,0,none⟩ v0).setCell ⟨Y,1,none⟩ v1).setCell ⟨Y,2,none⟩ v2).setCell ⟨Y,3,none⟩ v3).setCell ⟨Y,4,none⟩ v4).setCell ⟨Y,5,none⟩ v5) Y 6 _ _ v6 h5
  have h7 : ((((((((W.setCell ⟨Y,0,none⟩ v0).setCell ⟨Y,1,none⟩ v1).setCell ⟨Y,2,none⟩ v2).setCell ⟨Y,3,none⟩ v3).setCell ⟨Y,4,none⟩ v4).setCell ⟨Y,5,none⟩ v5).setCell ⟨Y,6,none⟩ v6).setCell ⟨Y,7,none⟩ v7).heap[Y]? = some (.cells #[v0,v1,v2,v3,v4,v5,v6,v7] t (0,0)) := heap_setCell_same (((((((W.setCell ⟨Y,0,none⟩ v0).setCell ⟨Y,1,none⟩ v1).setCell ⟨Y,2,none⟩ v2).setCell ⟨Y,3,none⟩ v3).setCell ⟨Y,4,none⟩ v4).setCell ⟨Y,5,none⟩ v5).setCell ⟨Y,6,none⟩ v6) Y 7 _ _ v7 h6
  exact h7
theorem grown_set8o (w : World) (b : Nat) (v0 v1 v2 v3 v4 v5 v6 v7 : Value) : w.grownBy (set8 w b v0 v1 v2 v3 v4 v5 v6 v7) (some b) :=
  (((((((grown_setc w b 0 v0).trans (grown_setc _ b 1 v1)).trans (grown_setc _ b 2 v2)).trans (grown_setc _ b 3 v3)).trans (grown_setc _ b 4 v4)).trans (grown_setc _ b 5 v5)).trans (grown_setc _ b 6 v6)).trans (grown_setc _ b 7 v7)
end Go.Proofs.YtahccighonddaaaGreatDoor
namespace Go.Proofs.YtahccighonddaaaGreatDoor
open Go.RowKit
attribute [local go_sem ↓] Go.wp_at_zero Go.wp_at_succ
set_option linter.unusedSimpArgs false
set_option linter.unusedVariables false
variable {ta : Option Addr} {tl tc : Nat}
def heardA (ts : List TD) (r : RD) (g : Int) (m : Nat) (loose : Bool) : RO := if findB g r.curs then hearM ts r g m loose else RO.ill 6
def heardT (ts : List TD) (r : RD) (g : Int) (m : Nat) (loose : Bool) : List ByteArray := if findB g r.curs then (hearG ts r g m loose).2 else []
theorem grown_px {w v z : World} {px b : Nat} (h : w.grownBy v (some px)) (hg : v.grownBy z (some b)) (hb : w.heap.size ≤ b) : w.grownBy z (some px) :=
  ⟨hg.os.trans h.os,hg.tape.trans h.tape,hg.output.trans h.output,Nat.le_trans h.size hg.size,fun k hk hne => (hg.block k (Nat.lt_of_lt_of_le hk h.size) (fun e => by cases e; omega)).trans (h.block k hk hne)⟩
theorem cell_set8 {w : World} {b o q : Nat} {x : Option Value} (v0 v1 v2 v3 v4 v5 v6 v7 : Value) (h : w.cell? ⟨b,o,none⟩ = x) (hne : q ≠ b) : (set8 w q v0 v1 v2 v3 v4 v5 v6 v7).cell? ⟨b,o,none⟩ = x := by
  have e : ∀ (u : World) (i : Nat) (v : Value),(u.setCell ⟨q,i,none⟩ v).cell? ⟨b,o,none⟩ = u.cell? ⟨b,o,none⟩ := fun u i v => World.cell?_setCell_other u ⟨q,i,none⟩ ⟨b,o,none⟩ v (fun e => by cases e; exact hne rfl)
  simp only [set8,e]
  exact h
theorem cell_apart {w : World} {b o q : Nat} {v : Value} {x : Option Value} (h : w.cell? ⟨b,o,none⟩ = x) (hne : q ≠ b) : (w.setCell ⟨q,0,none⟩ v).cell? ⟨b,o,none⟩ = x := (World.cell?_setCell_other w ⟨q,0,none⟩ ⟨b,o,none⟩ v (fun e => by cases e; exact hne rfl)).trans h
end Go.Proofs.YtahccighonddaaaGreatDoor
namespace Go.Proofs.YtahccighonddaaaGreatDoor
open Go.RowKit Go.Maps Go.MuLone
attribute [local go_sem ↓] Go.wp_at_zero Go.wp_at_succ
set_option linter.unusedSimpArgs false
set_option linter.unusedVariables false
variable {aN aF aR aS aM aL : Addr}
abbrev whO (s : Int) (p : Addr) : Obj := .cells #[.int .i32 s,.int .u32 0,.pointer (some p)] 153 (0,0)
def QKeeps (Q : World → Prop) : Prop := (∀ u u',u.grownBy u' none → Q u → Q u') ∧ ∀ u u' X C T,u.grownBy u' (some X) → u.heap[X]? = some (.cells C T (0,0)) → (T = 153 ∨ T = 63) → Q u → Q u'
def StepAns (lo : Nat) (w0 : World) (Wb : Nat) (KP Q : World → Prop) (A : RO) (v v' : World) (e : Ending) : Prop :=
  ∃ a q b p,e = .returned (ringOutV A.cap A.first a A.recs.length q b A.curs.length p A.k A.t A.d A.c) ∧ OwnRing v' w0.heap.size a A.recs.length q b A.curs.length p (A.recs.map Value.string) (curCells A.curs) ∧ Below lo w0 v' ∧ w0.heap.size ≤ v'.heap.size ∧ v'.heap[Wb]? = v.heap[Wb]? ∧ KP v' ∧ Q v'
section
variable {lo : Nat} {u v : World} {B M : Nat} {ta : Option Addr} {tl tc : Nat} {ra : Option Addr} {rl rc : Nat} {ea : Option Addr} {el ec : Nat} {now began puts : Int} {ts : List TD} {rs : List RD} {es : List Int} {m : Nat} {D : DataW Unit}
theorem WK.other {X : Nat} (h : WK lo u B M ta tl tc ra rl rc ea el ec now began puts ts rs es m D) (hg : u.grownBy v (some X)) (hX : ¬ Mine B M ta ra ea X) (ht : ∀ t ∈ ts,t.off X) (hr : ∀ r ∈ rs,r.off X) : WK lo v B M ta tl tc ra rl rc ea el ec now began puts ts rs es m D := by
  unfold Mine at hX
  simp only [not_or] at hX
  obtain ⟨h1,h2,h3,h4,h5⟩ := hX
  exact ⟨(hg.block _ (fb_lt h.b) (by simp; omega)).trans h.b,h.m.kept hg (by simp; omega),own_keep h.t hg (.inr h3),own_keep h.r hg (.inr h4),own_keep h.e hg (.inr h5),fun t hm => (h.ft t hm).grown hg (ht t hm),fun r hm => (h.fr r hm).grown hg (hr r hm).1 (hr r hm).2,h.ot,h.or,h.lb,h.lm⟩
theorem WK.new_off {X : Nat} (h : WK lo u B M ta tl tc ra rl rc ea el ec now began puts ts rs es m D) (hX : u.heap.size ≤ X) : ¬ Mine B M ta ra ea X ∧ (∀ t ∈ ts,t.off X) ∧ ∀ r ∈ rs,r.off X :=
  ⟨fun hm => by have := (h.mine_lt hm).2; omega,fun t ht => ⟨fun x e he => by have := (h.ft t ht).r.lt x e; omega,fun x e he => by have := (h.ft t ht).l.lt x e; omega⟩,
   fun r hr => ⟨fun x e he => by have := (h.fr r hr).str.lt x e; omega,fun x e he => by have := (h.fr r hr).cur.lt x e; omega⟩⟩
theorem off_typed {w : World} {base e size n c X : Nat} {a : Option Addr} {C : Array Value} {ys : List Value} {T : TypeId} (h : w.ownsRow base e size (.slice a n c) n ys) (hX : w.heap[X]? = some (.cells C T (0,0))) (hne : e ≠ T) : Off X a := fun x ea he => own_ne h hX hne (by rw [ea]; simp [blk?,he])
end
set_option maxRecDepth 100000 in
set_option maxHeartbeats 1500000 in
theorem impl_change {lo B M : Nat} {ta : Option Addr} {tl tc : Nat} {rl rc : Nat} {ea : Option Addr} {el ec : Nat} {now began puts : Int} {ts : List TD} {rs : List RD} {es : List Int} {m : Nat} {D : DataW Unit} (K : Nat) (caps : Array Value) (Wb g rb : Nat) (r : RD) (A : RO) (Q : World → Prop) (w0 w : World)
    (hcf : ∀ (args : Array Value) (w : World),(callFunc K args).run Tryz.prog w = .ok (.enter K args) w)
    (h : WK lo w0 B M ta tl tc (some ⟨rb,0,none⟩) rl rc ea el ec now began puts ts rs es m D) (hg : rs[g]? = some r) (hb : Below w0.heap.size w0 w) (hWb : w.heap[Wb]? = some (whO 0 ⟨rb,g * 4,none⟩)) (hW0 : w0.heap.size ≤ Wb)
    (hS : Calls Tryz.prog K (#[r.v] ++ caps) (w.setCell ⟨Wb,0,none⟩ (.int .i32 1)) fun e v' => StepAns lo w0 Wb (fun u => WK lo u B M ta tl tc (some ⟨rb,0,none⟩) rl rc ea el ec now began puts ts rs es m D) Q A (w.setCell ⟨Wb,0,none⟩ (.int .i32 1)) v' e)
    (hQ : QKeeps Q) (hG : A.c = 0 → RGood r A) :
    Calls Tryz.prog 106 #[.pointer (some ⟨Wb,0,none⟩),.func (.func K) #[] caps] w fun x w' => Below lo w0 w' ∧ Q w' ∧
      (A.c ≠ 0 → x = .returned (faultV A.c) ∧ WK lo w' B M ta tl tc (some ⟨rb,0,none⟩) rl rc ea el ec now began puts ts rs es m D) ∧
      (A.c = 0 → x = .returned .nilIface ∧ ∃ r' : RD,r'.strip = A.rd ∧ r'.rl = A.recs.length ∧ (∀ X,X < w0.heap.size → r'.off X) ∧ WK lo w' B M ta tl tc (some ⟨rb,0,none⟩) rl rc ea el ec now began puts ts (rs.set g r') es m D) := by
  have HK : Hid (WK lo w0 B M ta tl tc (some ⟨rb,0,none⟩) rl rc ea el ec now began puts ts rs es m D) := h
  have HG : Hid (rs[g]? = some r) := hg
  have HCF : Hid _ := hcf
  have HS : Hid (Calls Tryz.prog K (#[r.v] ++ caps) (w.setCell ⟨Wb,0,none⟩ (.int .i32 1)) fun e v' => StepAns lo w0 Wb (fun u => WK lo u B M ta tl tc (some ⟨rb,0,none⟩) rl rc ea el ec now began puts ts rs es m D) Q A (w.setCell ⟨Wb,0,none⟩ (.int .i32 1)) v' e) := hS
  have HQQ : Hid (QKeeps Q) := hQ
  have HGD : Hid (A.c = 0 → RGood r A) := hG
  have HLO : Hid (w0.heap.size ≤ Wb) := hW0
  have HL : Hid (lo ≤ w0.heap.size) := Nat.le_of_lt (Nat.lt_of_le_of_lt h.lb (fb_lt h.b))
  have HRB : Hid (lo ≤ rb ∧ rb < w0.heap.size) := h.mine_lt (X := rb) (.inr (.inr (.inr (.inl rfl))))
  have HGL : Hid (g < rs.length) := (List.getElem?_eq_some_iff.1 hg).1
  have hgl : g < rl := by rw [← h.rngs.1]; exact (List.getElem?_eq_some_iff.1 hg).1
  have HW : Hid (w.heap[Wb]? = some (whO 0 ⟨rb,g * 4,none⟩)) := hWb
  have c0 := fun o => fb_cell HW.out o
  have f0 := fun o => unfrozen_of_block0 HW.out o
  have HB1 : Hid (Below w0.heap.size w0 (w.setCell ⟨Wb,0,none⟩ (.int .i32 1))) := hb.setCell (p := ⟨Wb,0,none⟩) hW0 _
  have HW1 : Hid ((w.setCell ⟨Wb,0,none⟩ (.int .i32 1)).heap[Wb]? = some (whO 1 ⟨rb,g * 4,none⟩)) := heap_setCell_same w Wb 0 _ _ (.int .i32 1) hWb
  clear h hg hcf hS hQ hG hb hWb hW0
  go_enter_defers Tryz.func106,Tryz.ntmps106
  go_wp2_with fail
  refine (Go.MuLone.lock_free muLib ⟨Wb,0,none⟩ _ (c0 0) (f0 0)).mono ?_
  rintro e w' ⟨rfl,rfl⟩
  clear c0 f0 HW
  obtain ⟨W1,hW1⟩ : ∃ W,w.setCell ⟨Wb,0,none⟩ (.int .i32 1) = W := ⟨_,rfl⟩
  rw [hW1] at HS HB1 HW1 ⊢
  clear hW1
  have c1 := fun o => fb_cell HW1.out o
  obtain ⟨_,_,r1,e0,e1,g0,g1,g2,g3,_⟩ := rngsG_at keeps_fit HK.out.rngs HB1.out hgl
  cases e0
  obtain rfl := Option.some.inj (HG.out.symm.trans e1)
  simp only [Nat.zero_add] at g0 g1 g2 g3
  clear e1
  have hcf := HCF.out
  go_wp2_with fail
  refine Calls.mono HS.out ?_
  rintro x v ⟨a,q,b,p,rfl,ho,hbv,hzv,hwv,hkv,hqv⟩
  have HO : Hid (OwnRing v w0.heap.size a A.recs.length q b A.curs.length p (A.recs.map Value.string) (curCells A.curs)) := ho
  have HBV : Hid (Below lo w0 v) := hbv
  have HKV : Hid (WK lo v B M ta tl tc (some ⟨rb,0,none⟩) rl rc ea el ec now began puts ts rs es m D) := hkv
  have HZV : Hid (w0.heap.size ≤ v.heap.size) := hzv
  have HWV : Hid (v.heap[Wb]? = some (whO 1 ⟨rb,g * 4,none⟩)) := hwv.trans HW1.out
  have HQV : Hid (Q v) := hqv
  clear ho hbv hzv hwv hkv hqv HS HCF hcf HW1 HB1 c1 g0 g1 g2 g3
  obtain ⟨U,hU⟩ : ∃ U,v.alloc (rOutO A a q b p) = U := ⟨_,rfl⟩
  have HX : Hid (U.heap[v.heap.size]? = some (rOutO A a q b p)) := by rw [← hU]; exact heap_alloc_new _ _
  have HBU : Hid (Below v.heap.size v U) := by rw [← hU]; exact fbelow_new _ _
  have HOU : Hid (OwnRing U w0.heap.size a A.recs.length q b A.curs.length p (A.recs.map Value.string) (curCells A.curs)) := ⟨own_below HO.out.1 HBU.out,own_below HO.out.2 HBU.out⟩
  have HB2 : Hid (Below lo w0 U) := HBV.out.trans (HBU.out.mono (Nat.le_trans HL.out HZV.out))
  have HKU : Hid (WK lo U B M ta tl tc (some ⟨rb,0,none⟩) rl rc ea el ec now began puts ts rs es m D) := HKV.out.under HBU.out
  have hoff := HK.out.new_off HLO.out
  have HOFF : Hid _ := hoff
  have HW2 : Hid (U.heap[Wb]? = some (whO 1 ⟨rb,g * 4,none⟩)) := (HBU.out.block _ (fb_lt HWV.out)).trans HWV.out
  have HQ2 : Hid (Q U) := HQQ.out.1 _ _ (tbelow_grown HBU.out) HQV.out
  have HUE : Hid (v.alloc (Obj.cells #[.int .i64 A.cap,.int .i64 A.first,.slice a A.recs.length q,.slice b A.curs.length p,.int .i64 A.k,.int .i64 A.t,.string A.d,.int .i64 A.c] 67 (0,0)) = U) := hU
  obtain ⟨X,hX⟩ : ∃ X,v.heap.size = X := ⟨_,rfl⟩
  rw [hX] at HX
  have HXE : Hid (v.heap.size = X) := hX
  clear hU hX HO HBV HWV HQV HBU HKV HZV hoff
  by_cases hc : A.c = 0
  case neg =>
    have hcb : (A.c != 0) = true := by simpa using hc
    have HC : Hid (A.c ≠ 0) := hc
    clear hc
    go_wp2_with fail
    rw [show v.alloc (Obj.cells #[.int .i64 A.cap,.int .i64 A.first,.slice a A.recs.length q,.slice b A.curs.length p,.int .i64 A.k,.int .i64 A.t,.string A.d,.int .i64 A.c] 67 (0,0)) = U from HUE.out]
    refine leaves_cons (f := 160) (args := #[.pointer (some ⟨Wb,0,none⟩)]) (by simp) (by simp [go_sem]) ?_
    refine (Go.MuLone.unlock_deferred muLib ⟨Wb,0,none⟩ .returning _ (fb_cell HW2.out 0) (unfrozen_of_block0 HW2.out 0)).mono ?_
    rintro e u' w'' ⟨rfl,rfl,rfl⟩
    exact ⟨_,results_tmp rfl _ _ _,(HB2.out.setCell (p := ⟨Wb,0,none⟩) (Nat.le_trans HL.out HLO.out) _),HQQ.out.2 U _ Wb _ _ (grown_setc U Wb 0 _) HW2.out (.inl rfl) HQ2.out,fun _ => ⟨rfl,HKU.out.other (grown_setc U Wb 0 _) HOFF.out.1 HOFF.out.2.1 HOFF.out.2.2⟩,fun e => absurd e HC.out⟩
  case pos =>
    have hcb : (A.c != 0) = false := by simp [hc]
    have HGOOD : Hid (RGood r A) := HGD.out hc
    have HC : Hid (A.c = 0) := hc
    clear hc
    have HFR : Hid (r.fit w0) := HK.out.fr r (List.mem_of_getElem? HG.out)
    have hrn : r.recs.length = r.rl := HFR.out.str.strs.1
    have hrle := HFR.out.rle
    have cx := fun o => fb_cell HX.out o
    have cw := fun o => fb_cell HW2.out o
    obtain ⟨_,_,r1,e0,e1,g0,g1,g2,g3,_⟩ := rngsG_at keeps_fit HKU.out.rngs (Below.refl _ _) hgl
    cases e0
    obtain rfl := Option.some.inj (HG.out.symm.trans e1)
    simp only [Nat.zero_add] at g0 g1 g2 g3
    clear e1
    have hfr := fun j => (HKU.out.r).frozenAt j
    have hfrd : ∀ j,U.drew.frozen? _ = _ := hfr
    have cxd : ∀ o,U.drew.cell? ⟨X,o,none⟩ = _ := cx
    have cwd : ∀ o,U.drew.cell? ⟨Wb,o,none⟩ = _ := cw
    have HKs : Hid (WK lo (set4 U.drew rb (g * 4) (.int .i64 A.cap) (.int .i64 A.first) (.slice a A.recs.length q) (.slice b A.curs.length p)) B M ta tl tc (some ⟨rb,0,none⟩) rl rc ea el ec now began puts ts (rs.set g (⟨A.cap,A.first,a,A.recs.length,q,b,A.curs.length,p,A.recs,A.curs⟩ : RD)) es m D) :=
      (HKU.out.under ((Below.refl _ _).drew)).setR g HGL.out (⟨A.cap,A.first,a,A.recs.length,q,b,A.curs.length,p,A.recs,A.curs⟩ : RD) (RFit.below (own_fitR (n := A.recs.length) (m := A.curs.length) HOU.out (fun s hs => HFR.out.sz s (HGOOD.out.s s hs)) (by have := HGOOD.out.n; omega) (by have := HGOOD.out.m; omega)) ((Below.refl _ _).drew)) (fun Q hQ => ⟨off_new HOU.out.1 (HK.out.mine_lt hQ).2,off_new HOU.out.2 (HK.out.mine_lt hQ).2⟩)
    have hrb := HRB.out.1
    have HBs : Hid (Below lo w0 (set4 U.drew rb (g * 4) (.int .i64 A.cap) (.int .i64 A.first) (.slice a A.recs.length q) (.slice b A.curs.length p))) :=
      ((((HB2.out.drew).setCell (p := ⟨rb,g * 4,none⟩) hrb _).setCell (p := ⟨rb,g * 4 + 1,none⟩) hrb _).setCell (p := ⟨rb,g * 4 + 2,none⟩) hrb _).setCell (p := ⟨rb,g * 4 + 3,none⟩) hrb _
    have hg4 := grown_set4 U.drew rb (g * 4) (.int .i64 A.cap) (.int .i64 A.first) (.slice a A.recs.length q) (.slice b A.curs.length p)
    have HWs : Hid ((set4 U.drew rb (g * 4) (.int .i64 A.cap) (.int .i64 A.first) (.slice a A.recs.length q) (.slice b A.curs.length p)).heap[Wb]? = some (whO 1 ⟨rb,g * 4,none⟩)) := (hg4.block _ (fb_lt (show U.drew.heap[Wb]? = _ from HW2.out)) (fun e => by cases e; have := HRB.out.2; have := HLO.out; omega)).trans HW2.out
    have HQs : Hid (Q (set4 U.drew rb (g * 4) (.int .i64 A.cap) (.int .i64 A.first) (.slice a A.recs.length q) (.slice b A.curs.length p))) := by
      obtain ⟨C,hC⟩ := own_typed HKU.out.r (by rfl)
      exact HQQ.out.2 U.drew _ rb C _ hg4 hC (.inr rfl) (HQQ.out.1 _ _ (tbelow_grown ((Below.refl _ _).drew)) HQ2.out)
    clear hrb hg4 hrn hrle
    go_upto_region 6 with fail
    rw [show v.alloc (Obj.cells #[.int .i64 A.cap,.int .i64 A.first,.slice a A.recs.length q,.slice b A.curs.length p,.int .i64 A.k,.int .i64 A.t,.string A.d,.int .i64 A.c] 67 (0,0)) = U from HUE.out,HXE.out]
    go_cut [] from 28 to 35 (fun wd => Hid (WK lo wd B M ta tl tc (some ⟨rb,0,none⟩) rl rc ea el ec now began puts ts (rs.set g (⟨A.cap,A.first,a,A.recs.length,q,b,A.curs.length,p,A.recs,A.curs⟩ : RD)) es m D) ∧ Hid (Below lo w0 wd) ∧ Hid (wd.heap[Wb]? = some (whO 1 ⟨rb,g * 4,none⟩)) ∧ Hid (Q wd))
    case first =>
      go_region
      all_goals
        go_wp2_with fail
        go_meet
        exact ⟨HKs,HBs,HWs,HQs⟩
    case rest =>
    obtain ⟨HK4,HB4,HW4,HQ4⟩ := hcut
    clear HKs HBs HWs HQs cx cw cxd cwd g0 g1 g2 g3 hfr hfrd
    go_wp2_with fail
    refine leaves_cons (f := 160) (args := #[.pointer (some ⟨Wb,0,none⟩)]) (by simp) (by simp [go_sem]) ?_
    refine (Go.MuLone.unlock_deferred muLib ⟨Wb,0,none⟩ .returning _ (fb_cell HW4.out 0) (unfrozen_of_block0 HW4.out 0)).mono ?_
    rintro e u' w'' ⟨rfl,rfl,rfl⟩
    have hoff := HOFF.out
    refine ⟨_,results_tmp rfl _ _ _,HB4.out.setCell (p := ⟨Wb,0,none⟩) (Nat.le_trans HL.out HLO.out) _,HQQ.out.2 _ _ Wb _ _ (grown_setc _ Wb 0 _) HW4.out (.inl rfl) HQ4.out,fun e => absurd HC.out e,fun _ => ⟨rfl,(⟨A.cap,A.first,a,A.recs.length,q,b,A.curs.length,p,A.recs,A.curs⟩ : RD),rfl,rfl,(fun X hX => ⟨off_new HOU.out.1 hX,off_new HOU.out.2 hX⟩),HK4.out.other (grown_setc _ Wb 0 _) hoff.1 hoff.2.1 fun x hx => ?_⟩⟩
    rcases List.mem_or_eq_of_mem_set hx with hx | rfl
    · exact hoff.2.2 x hx
    · exact ⟨off_typed HOU.out.1 HW2.out (by decide),off_typed HOU.out.2 HW2.out (by decide)⟩
end Go.Proofs.YtahccighonddaaaGreatDoor
namespace Go.Proofs.YtahccighonddaaaGreatDoor
open Go.RowKit Go.Maps
attribute [local go_sem ↓] Go.wp_at_zero Go.wp_at_succ
set_option linter.unusedSimpArgs false
set_option linter.unusedVariables false
variable {aN aF aR aS aM aL : Addr}
set_option maxRecDepth 100000 in
set_option maxHeartbeats 2000000 in
theorem impl_changeOn {lo B M : Nat} {ta : Option Addr} {tl tc : Nat} {ra : Option Addr} {rl rc : Nat} {ea : Option Addr} {el ec : Nat} {now began puts : Int} {ts : List TD} {rs : List RD} {es : List Int} {m : Nat} {D : DataW Unit} (K : Nat) (caps : Array Value) (g : Int) (A : RD → RO) (Q : World → Prop) (w : World)
    (hcf : ∀ (args : Array Value) (w : World),(callFunc K args).run Tryz.prog w = .ok (.enter K args) w)
    (h : WK lo w B M ta tl tc ra rl rc ea el ec now began puts ts rs es m D) (hrl : rl ≤ 1048576) (hE : Errs aN aF aR aS aM aL w)
    (hS : ∀ (G : Nat) (r : RD) (Wb : Nat) (v : World),g = (G : Int) → rs[G]? = some r → Below w.heap.size w v → w.heap.size ≤ Wb → Wb < v.heap.size → Calls Tryz.prog K (#[r.v] ++ caps) v fun e v' => StepAns lo w Wb (fun u => WK lo u B M ta tl tc ra rl rc ea el ec now began puts ts rs es m D) Q (A r) v v' e)
    (hQ : QKeeps Q) (hG : ∀ r,(A r).c = 0 → RGood r (A r)) :
    Calls Tryz.prog 58 #[.pointer (some ⟨B,0,none⟩),.int .i64 g,.func (.func K) #[] caps] w fun x w' => Below lo w w' ∧
      (¬ (0 ≤ g ∧ g < (rs.length : Int)) → x = .returned (errV aR) ∧ w' = w) ∧
      (∀ (G : Nat) (r : RD),g = (G : Int) → rs[G]? = some r → Q w' ∧ ((A r).c ≠ 0 → x = .returned (faultV (A r).c) ∧ WK lo w' B M ta tl tc ra rl rc ea el ec now began puts ts rs es m D) ∧
        ((A r).c = 0 → x = .returned .nilIface ∧ ∃ r' : RD,r'.strip = (A r).rd ∧ r'.rl = (A r).recs.length ∧ (∀ X,X < w.heap.size → r'.off X) ∧ WK lo w' B M ta tl tc ra rl rc ea el ec now began puts ts (rs.set G r') es m D)) := by
  have HK : Hid (WK lo w B M ta tl tc ra rl rc ea el ec now began puts ts rs es m D) := h
  have HL : Hid (lo ≤ w.heap.size) := Nat.le_of_lt (Nat.lt_of_le_of_lt h.lb (fb_lt h.b))
  have hln := h.rngs.1
  have cR := hE.r.cell
  by_cases hg : 0 ≤ g ∧ g < (rs.length : Int)
  case neg =>
    have hd : decide (0 ≤ g ∧ g < (rl : Int)) = false := decide_eq_false (by omega)
    have HNG : Hid (¬ (0 ≤ g ∧ g < (rs.length : Int))) := hg
    have HNR : Hid (∀ (G : Nat) (r : RD),g = (G : Int) → rs[G]? ≠ some r) := fun G r e hr => hg ⟨by omega,by have := (List.getElem?_eq_some_iff.1 hr).1; omega⟩
    clear h hE hS hQ hG hg hcf
    go_enter Tryz.func58,Tryz.ntmps58
    go_wp2_with fail
    refine (impl_hasRing g _ HK.out.b hrl).mono ?_
    rintro x v ⟨rfl,hv⟩
    rw [hv,hd]
    clear hv v hd
    go_wp2
    go_ret
    exact ⟨(Below.refl _ _).mono HL.out,fun _ => ⟨rfl,rfl⟩,fun G r e hr => absurd hr (HNR.out G r e)⟩
  case pos =>
  obtain ⟨G,rfl⟩ : ∃ G : Nat,g = (G : Int) := ⟨g.toNat,by omega⟩
  obtain ⟨r,hr⟩ : ∃ r,rs[G]? = some r := ⟨rs[G]'(by omega),List.getElem?_eq_getElem _⟩
  have hd : decide (0 ≤ (G : Int) ∧ (G : Int) < (rl : Int)) = true := decide_eq_true (by omega)
  obtain ⟨rb,rfl⟩ := own_nform h.r (by omega)
  have hgi : (G : Int) < (rl : Int) := by omega
  have HBA : Hid (Below w.heap.size w (w.alloc (whO 0 ⟨rb,G * 4,none⟩))) := fbelow_new _ _
  have HC : Hid _ := impl_change K caps w.heap.size G rb r (A r) Q w (w.alloc (whO 0 ⟨rb,G * 4,none⟩)) hcf h hr (fbelow_new _ _) (heap_alloc_new _ _) (Nat.le_refl _)
    (hS G r w.heap.size _ rfl hr ((fbelow_new w (whO 0 ⟨rb,G * 4,none⟩)).setCell (p := ⟨w.heap.size,0,none⟩) (Nat.le_refl _) _) (Nat.le_refl _) (by simp)) hQ (hG r)
  have HG : Hid (rs[G]? = some r) := hr
  have HNG : Hid (0 ≤ (G : Int) ∧ (G : Int) < (rs.length : Int)) := hg
  clear h hE hS hQ hG hg hcf hr hln
  go_enter Tryz.func58,Tryz.ntmps58
  go_wp2_with fail
  refine (impl_hasRing (G : Int) _ HK.out.b hrl).mono ?_
  rintro x v ⟨rfl,hv⟩
  rw [hv,hd]
  clear hv v hd
  have cb := fun o => fb_cell HK.out.b o
  go_wp2_with fail
  refine Calls.mono HC.out ?_
  rintro x v ⟨hb,hq,h1,h2⟩
  have HB : Hid (Below lo w v) := hb
  have HR : Hid (∀ (G' : Nat) (r' : RD),(G : Int) = (G' : Int) → rs[G']? = some r' → Q v ∧ ((A r').c ≠ 0 → x = .returned (faultV (A r').c) ∧ WK lo v B M ta tl tc (some ⟨rb,0,none⟩) rl rc ea el ec now began puts ts rs es m D) ∧
        ((A r').c = 0 → x = .returned .nilIface ∧ ∃ r'' : RD,r''.strip = (A r').rd ∧ r''.rl = (A r').recs.length ∧ (∀ X,X < w.heap.size → r''.off X) ∧ WK lo v B M ta tl tc (some ⟨rb,0,none⟩) rl rc ea el ec now began puts ts (rs.set G' r'') es m D)) := fun G' r' e hr' => by
    obtain rfl : G = G' := by omega
    obtain rfl := Option.some.inj (HG.out.symm.trans hr')
    exact ⟨hq,h1,h2⟩
  have hx : x = .returned (if (A r).c = 0 then .nilIface else faultV (A r).c) := by
    by_cases hc : (A r).c = 0
    · rw [if_pos hc]; exact (h2 hc).1
    · rw [if_neg hc]; exact (h1 hc).1
  subst hx
  clear hb hq h1 h2 HC cb
  obtain ⟨X,hX⟩ : ∃ X : Value,(if (A r).c = 0 then Value.nilIface else faultV (A r).c) = X := ⟨_,rfl⟩
  rw [hX] at HR ⊢
  clear hX
  go_wp2
  go_ret
  exact ⟨HB.out,fun hn => absurd HNG.out hn,HR.out⟩
end Go.Proofs.YtahccighonddaaaGreatDoor
namespace Go.Proofs.YtahccighonddaaaGreatDoor
open Go.RowKit Go.Maps
attribute [local go_sem ↓] Go.wp_at_zero Go.wp_at_succ
set_option linter.unusedSimpArgs false
set_option linter.unusedVariables false
variable {aN aF aR aS aM aL : Addr}
theorem move_good {r : RD} {g x : Int} (h : (moveR r.cap r.first r.recs r.curs g x).c = 0) : RGood r (moveR r.cap r.first r.recs r.curs g x) := by
  unfold moveR at h ⊢
  by_cases h1 : ringRightB r.cap r.first r.recs r.curs = false
  · rw [if_pos h1] at h; exact absurd h (by decide)
  rw [if_neg h1] at h ⊢
  by_cases h2 : findB g r.curs = false
  · rw [if_pos h2] at h; exact absurd h (by decide)
  rw [if_neg h2] at h ⊢
  by_cases h3 : x < (r.curs.getD (findK g r.curs) (0,0)).2 ∨ r.first + (r.recs.length : Int) < x
  · rw [if_pos h3] at h; exact absurd h (by decide)
  rw [if_neg h3]
  have hR : ringRightB r.cap r.first r.recs r.curs = true := by
    cases hr : ringRightB r.cap r.first r.recs r.curs
    · exact absurd hr h1
    · rfl
  have hB : findB g r.curs = true := by
    cases hr : findB g r.curs
    · exact absurd hr h2
    · rfl
  have hf := right_first hR
  have hc := (right_curs hR).1
  have hat := hear_at hR hB
  unfold hearC0 at hat
  refine trim_good hR (fun c hm => ?_) ?_
  · rcases List.mem_append.1 hm with hm | hm
    · exact hc c (List.mem_of_mem_take hm)
    · rcases List.mem_cons.1 hm with rfl | hm
      · show r.first ≤ x ∧ x ≤ r.first + (r.recs.length : Int)
        omega
      · exact hc c (List.mem_of_mem_drop hm)
  · have := hf.2.2.2.2
    simp only [List.length_append,List.length_cons,List.length_take,List.length_drop]
    omega
theorem heard_good {ts : List TD} {r : RD} {g : Int} {m : Nat} {loose : Bool} (h : (heardA ts r g m loose).c = 0) : RGood r (heardA ts r g m loose) := by
  unfold heardA at h ⊢
  cases hB : findB g r.curs with
  | false => rw [hB] at h; simp [RO.ill] at h
  | true => rw [hB] at h; exact move_good h
def pollR (rs : List RD) (es : List Int) (ts : List TD) (now n g most : Int) (loose : Bool) : Except Int FV :=
  if ¬ (1 ≤ most ∧ most ≤ 20) then .error 1 else grpR (fun r => heardA ts r n most.toNat loose) rs es ts now g
def pollX (rs : List RD) (ts : List TD) (n g most : Int) (loose : Bool) : List ByteArray := match rs[g.toNat]? with | some r => heardT ts r n most.toNat loose | none => []
def ToldAt (base px : Nat) (T : List ByteArray) (u : World) : Prop := ∃ a c,u.heap[px]? = some (.cells #[.slice a T.length c] 43 (0,0)) ∧ u.ownsRow base 9 1 (.slice a T.length c) T.length (T.map Value.string)
theorem told_keeps (base px : Nat) (T : List ByteArray) : QKeeps (ToldAt base px T) := by
  refine ⟨fun u u' hg h => ?_,fun u u' X C t hg hX ht h => ?_⟩
  · obtain ⟨a,c,h1,h2⟩ := h
    exact ⟨a,c,(hg.block _ (fb_lt h1) (by simp)).trans h1,own_keep h2 hg (.inl rfl)⟩
  · obtain ⟨a,c,h1,h2⟩ := h
    refine ⟨a,c,(hg.block _ (fb_lt h1) (fun e => ?_)).trans h1,own_keep h2 hg (.inr (own_ne h2 hX (by rcases ht with rfl | rfl <;> decide)))⟩
    cases e
    rw [h1] at hX
    cases hX
    rcases ht with h | h <;> exact absurd h (by decide)
set_option maxRecDepth 100000 in
set_option maxHeartbeats 2000000 in
theorem impl_poll_bad {B : Nat} (n g mo : Int) (loose : Bool) (w : World) (hE : Errs aN aF aR aS aM aL w) (hmo : ¬ (1 ≤ mo ∧ mo ≤ 20)) :
    Calls Tryz.prog 68 #[.pointer (some ⟨B,0,none⟩),.int .i64 n,.int .i64 g,.int .i64 mo,.bool loose] w fun x w' => x = .returned (.tuple #[.slice none 0 0,errV aN]) ∧ Below w.heap.size w w' := by
  have cN := hE.n.cell
  have hNlt : 0 < w.heap.size := World.block_lt_of_cell? w ⟨0,0,none⟩ cN
  have HB : Hid (Below w.heap.size w ((((w.alloc (.cells #[.pointer (some ⟨B,0,none⟩)] 75 (0,0))).alloc (.cells #[.int .i64 n] 2 (0,0))).alloc (.cells #[.int .i64 mo] 2 (0,0))).alloc (.cells #[.bool loose] 4 (0,0)))) := below_tr (below_tr (below_tr (fbelow_new _ _) (fbelow_new _ _)) (fbelow_new _ _)) (fbelow_new _ _)
  have cW := cell_below cN HB.out
  clear hE
  by_cases h1 : mo < 1
  case pos =>
    clear hmo
    go_enter Tryz.func68,Tryz.ntmps68
    go_upto_region 2 with fail
    go_quiet (first | (fail))
    go_wp2
    exact bodyPost_ret (v := .tuple #[.slice none 0 0,errV aN]) (by simp [results,Tryz.results68,go_sem]) rfl ⟨rfl,below_dn HB.out _⟩
  case neg =>
    have h2 : (20 : Int) < mo := by omega
    clear hmo
    go_enter Tryz.func68,Tryz.ntmps68
    go_upto_region 2 with fail
    go_quiet (first | (fail))
    go_wp2
    exact bodyPost_ret (v := .tuple #[.slice none 0 0,errV aN]) (by simp [results,Tryz.results68,go_sem]) rfl ⟨rfl,below_dn HB.out _⟩
theorem callPoll11 (args : Array Value) (w : World) : (callFunc 116 args).run Tryz.prog w = .ok (.enter 116 args) w := by
  simp [go_sem,Tryz.func116]
end Go.Proofs.YtahccighonddaaaGreatDoor
namespace Go.Proofs.YtahccighonddaaaGreatDoor
open Go.RowKit Go.Maps
attribute [local go_sem ↓] Go.wp_at_zero Go.wp_at_succ
set_option linter.unusedSimpArgs false
set_option linter.unusedVariables false
structure BelowX (L px : Nat) (w v : World) : Prop where
  os : v.os = w.os
  tape : v.tape = w.tape
  output : v.output = w.output
  size : w.heap.size ≤ v.heap.size
  block : ∀ k,k < L → k ≠ px → v.heap[k]? = w.heap[k]?
theorem BelowX.mono {L L' px : Nat} {w v : World} (h : BelowX L px w v) (hl : L' ≤ L) : BelowX L' px w v := ⟨h.os,h.tape,h.output,h.size,fun k hk hne => h.block k (by omega) hne⟩
theorem grown_bx {px : Nat} {w v z : World} (h : Below w.heap.size w v) (hx : BelowX w.heap.size px v z) : w.grownBy z (some px) :=
  ⟨hx.os.trans h.os,hx.tape.trans h.tape,hx.output.trans h.output,Nat.le_trans h.size hx.size,fun k hk hne => (hx.block k hk (fun e => hne (by rw [e]))).trans (h.block k hk)⟩
def FaceAnsL (w w' : World) (QL : Nat → World → Prop) (R : Except Int FV) (x : Ending) : Prop :=
  match R with
  | .error c => x = .returned (illV c)
  | .ok F => ∃ (L : Nat) (ra : Option Addr) (rl rc : Nat) (ea : Option Addr) (ec : Nat) (ta : Option Addr) (tl tc : Nat) (rs : List RD) (ts : List TD),
    w.heap.size ≤ L ∧ x = .returned (outV ra rl rc ea 4 ec ta tl tc F.now F.n 0) ∧ OwnFab w' L ra rl rc ea 4 ec ta tl tc rs F.es ts ∧ FabSame F.rs rs F.ts ts ∧ rl ≤ 4 ∧ tl ≤ 12 ∧ QL L w'
variable {aN aF aR aS aM aL : Addr}
end Go.Proofs.YtahccighonddaaaGreatDoor
namespace Go.Proofs.YtahccighonddaaaGreatDoor
open Go.RowKit Go.Maps
attribute [local go_sem ↓] Go.wp_at_zero Go.wp_at_succ
set_option linter.unusedSimpArgs false
set_option linter.unusedVariables false
variable {aN aF aR aS aM aL : Addr}
theorem bx_set {lo px : Nat} {w v : World} (h : Below lo w v) (hl : lo ≤ v.heap.size) (y : Value) : BelowX lo px w (v.setCell ⟨px,0,none⟩ y) := by
  have hg := grown_setc v px 0 y
  exact ⟨hg.os.trans h.os,hg.tape.trans h.tape,hg.output.trans h.output,Nat.le_trans h.size hg.size,fun k hk hne => (hg.block k (by omega) (fun e => hne (Option.some.inj e))).trans (h.block k hk)⟩
theorem callPoll1 (args : Array Value) (w : World) : (callFunc 67 args).run Tryz.prog w = .ok (.enter 67 args) w := by
  simp [go_sem,Tryz.func67]
end Go.Proofs.YtahccighonddaaaGreatDoor
namespace Go.Proofs.YtahccighonddaaaGreatDoor
open Go.RowKit Go.Maps
attribute [local go_sem ↓] Go.wp_at_zero Go.wp_at_succ
set_option linter.unusedSimpArgs false
set_option linter.unusedVariables false
variable {aN aF aR aS aM aL : Addr}
abbrev pollV (ra : Option Addr) (rl rc : Nat) (ea : Option Addr) (el ec : Nat) (ta : Option Addr) (tl tc : Nat) (now : Int) (xa : Option Addr) (xn xc : Nat) (c : Int) : Value := .agg #[.slice ra rl rc,.slice ea el ec,.slice ta tl tc,.int .i64 now,.slice xa xn xc,.int .i64 c]
abbrev pollO (ra : Option Addr) (rl rc : Nat) (ea : Option Addr) (el ec : Nat) (ta : Option Addr) (tl tc : Nat) (now : Int) (xa : Option Addr) (xn xc : Nat) (c : Int) : Obj := .cells #[.slice ra rl rc,.slice ea el ec,.slice ta tl tc,.int .i64 now,.slice xa xn xc,.int .i64 c] 45 (0,0)
abbrev pillV (c : Int) : Value := pollV none 0 0 none 0 0 none 0 0 0 none 0 0 c
def PollAns (w w' : World) (R : Except Int FV) (TX : List ByteArray) (x : Ending) : Prop :=
  match R with
  | .error c => x = .returned (pillV c)
  | .ok F => ∃ (L : Nat) (ra : Option Addr) (rl rc : Nat) (ea : Option Addr) (ec : Nat) (ta : Option Addr) (tl tc : Nat) (rs : List RD) (ts : List TD) (xa : Option Addr) (xc : Nat),
    w.heap.size ≤ L ∧ x = .returned (pollV ra rl rc ea 4 ec ta tl tc F.now xa TX.length xc 0) ∧ OwnFab w' L ra rl rc ea 4 ec ta tl tc rs F.es ts ∧ FabSame F.rs rs F.ts ts ∧ rl ≤ 4 ∧ tl ≤ 12 ∧
    w'.ownsRow w.heap.size 9 1 (.slice xa TX.length xc) TX.length (TX.map Value.string) ∧ ∀ X,blk? xa = some X → X < L
theorem poll_err {rs : List RD} {es : List Int} {ts : List TD} {now n g most : Int} {loose : Bool} {c : Int} (h : pollR rs es ts now n g most loose = .error c) : c ≠ 0 := by
  unfold pollR at h
  split at h
  · cases h; decide
  · unfold grpR at h
    split at h
    · split at h
      · cases h; decide
      · split at h
        · cases h
        · cases h; assumption
    · cases h; decide
def ToldB (base px : Nat) (T : List ByteArray) (L : Nat) (u : World) : Prop := ∃ a c,u.heap[px]? = some (.cells #[.slice a T.length c] 43 (0,0)) ∧ u.ownsRow base 9 1 (.slice a T.length c) T.length (T.map Value.string) ∧ ∀ X,blk? a = some X → X < L
theorem told_b {base px : Nat} {T : List ByteArray} (u : World) (h : ToldAt base px T u) : ToldB base px T u.heap.size u := by
  obtain ⟨a,c,h1,h2⟩ := h
  exact ⟨a,c,h1,h2,fun X hX => (own_blk_lt h2 hX).2⟩
theorem toldB_new {base px : Nat} {T : List ByteArray} (L : Nat) (u u' : World) (hg : u.grownBy u' none) (h : ToldB base px T L u) : ToldB base px T L u' := by
  obtain ⟨a,c,h1,h2,h3⟩ := h
  exact ⟨a,c,(hg.block _ (fb_lt h1) (by simp)).trans h1,own_keep h2 hg (.inl rfl),h3⟩
theorem toldB_box {base px : Nat} {T : List ByteArray} {S : TypeId} (hS : S ≠ 43 ∧ S ≠ 9) (L : Nat) (u u' : World) (X : Nat) (C : Array Value) (hg : u.grownBy u' (some X)) (hX : u.heap[X]? = some (.cells C S (0,0))) (h : ToldB base px T L u) : ToldB base px T L u' := by
  obtain ⟨a,c,h1,h2,h3⟩ := h
  refine ⟨a,c,(hg.block _ (fb_lt h1) (fun e => ?_)).trans h1,own_keep h2 hg (.inr (own_ne h2 hX (fun e => hS.2 e.symm))),h3⟩
  cases e
  rw [h1] at hX
  cases hX
  exact hS.1 rfl
theorem bx_below {L px : Nat} {w v u : World} (h : Below w.heap.size w v) (hx : BelowX L px v u) (hl : w.heap.size ≤ L) (hp : w.heap.size ≤ px) : Below w.heap.size w u :=
  ⟨hx.os.trans h.os,hx.tape.trans h.tape,hx.output.trans h.output,Nat.le_trans h.size hx.size,fun k hk => (hx.block k (by omega) (by omega)).trans (h.block k hk)⟩
end Go.Proofs.YtahccighonddaaaGreatDoor
