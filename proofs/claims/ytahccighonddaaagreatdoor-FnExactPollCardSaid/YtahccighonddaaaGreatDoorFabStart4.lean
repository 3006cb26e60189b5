import Derived.Test.YtahccighonddaaaGreatDoorFabD
import Derived.Test.YtahccighonddaaaGreatDoorFabRings
import Derived.Test.YtahccighonddaaaGreatDoorFabEnds
import Derived.Deep.RegionLaw
namespace Go.Proofs.YtahccighonddaaaGreatDoor
open Go.RowKit Go.Maps
attribute [local go_sem ↓] Go.wp_at_zero Go.wp_at_succ
set_option linter.unusedSimpArgs false
def errs (w : World) : Prop := ∃ t v,w.cell? ⟨0,0,none⟩ = some (.iface t v)
def NotRight (w : World) (x : Ending) : Prop := ∃ t v,w.cell? ⟨0,0,none⟩ = some (.iface t v) ∧ x = .returned (.tuple #[.pointer none,.iface t v])
set_option maxRecDepth 100000 in
set_option maxHeartbeats 4000000 in
theorem impl_start_sizes (ra : Option Addr) (rl rc : Nat) (ea : Option Addr) (el ec : Nat) (ta : Option Addr) (tl tc : Nat) (now : Int) (w : World) (hr : rl ≤ 1048576) (he : el ≤ 1048576) (ht : tl ≤ 1048576) (hE : errs w) (h : ¬ (1 ≤ rl ∧ rl ≤ 4 ∧ el = 4 ∧ tl ≤ 12)) :
    Calls Tryz.prog 87 #[fabVal ra rl rc ea el ec ta tl tc now] w fun x w' => NotRight w x ∧ Below w.heap.size w w' := by
  have H0 : Hid (FB w (w.alloc (fabO ra rl rc ea el ec ta tl tc now)) (fabO ra rl rc ea el ec ta tl tc now)) := fb_new _ _ _
  have HE : Hid (errs w) := hE
  clear hE
  go_enter Tryz.func87,Tryz.ntmps87
  go_wp2_with fail
  refine (impl_sizes ra rl rc ea el ec ta tl tc now _ hr he ht).mono ?_
  rintro x v ⟨rfl,hbv⟩
  rw [decide_eq_false h]
  have H1 : Hid (FB w v (fabO ra rl rc ea el ec ta tl tc now)) := H0.out.under hbv
  obtain ⟨t,y,h0⟩ := HE.out
  have hc := cell_below h0 H1.out.bel
  have HC0 : Hid (w.cell? ⟨0,0,none⟩ = some (.iface t y)) := h0
  clear h0
  clear hbv H0 h
  go_wp2
  go_quiet (first | (fail))
  go_wp2
  exact bodyPost_ret (v := .tuple #[.pointer none,.iface t y]) (by simp [results,Tryz.results87,go_sem]) rfl ⟨⟨t,y,HC0.out,rfl⟩,tbelow_dn H1.out.bel _⟩
theorem tfit_off {w : World} {t : TD} (h : TFit w t) {X : Nat} (hX : w.heap.size ≤ X) : t.off X := ⟨fun x e he => by have := h.r.lt x e; omega,fun x e he => by have := h.l.lt x e; omega⟩
theorem rfit_off {w : World} {r : RD} (h : r.fit w) {X : Nat} (hX : w.heap.size ≤ X) : r.off X := ⟨fun x e he => by have := h.str.lt x e; omega,fun x e he => by have := h.cur.lt x e; omega⟩
structure BG (w v : World) (fo : Obj) (B M : Nat) (ta : Option Addr) (tl tc : Nat) (ra : Option Addr) (rl rc : Nat) (ea : Option Addr) (el ec : Nat) (now began : Int) (ts : List TD) (rs : List RD) (es : List Int) : Prop where
  f : v.heap[w.heap.size]? = some fo
  k : WK w.heap.size v B M ta tl tc ra rl rc ea el ec now began 0 ts rs es tl (openD ts tl)
  ft : ∀ t ∈ ts,TFit w t
  fr : ∀ r ∈ rs,r.fit w
  lo : w.heap.size < B
  bel : Below w.heap.size w v
section
variable {w u v : World} {fo : Obj} {B M : Nat} {ta : Option Addr} {tl tc : Nat} {ra : Option Addr} {rl rc : Nat} {ea : Option Addr} {el ec : Nat} {now began : Int} {ts : List TD} {rs : List RD} {es : List Int}
theorem wk_of {m : Nat} {D : DataW Unit} {puts : Int} (hbel : Below w.heap.size w v) (hb : v.heap[B]? = some (workO ta tl tc M ra rl rc ea el ec now began puts)) (hm : v.ownsMap Tryz.prog 2 (plainElem Tryz.prog 3) M m D)
    (ht : v.ownsRow w.heap.size 59 6 (.slice ta tl tc) tl (tdCells ts)) (hr : v.ownsRow w.heap.size 63 4 (.slice ra rl rc) rl (rdCells rs)) (he : v.ownsRow w.heap.size 2 1 (.slice ea el ec) el (numCells es))
    (ft : ∀ t ∈ ts,TFit w t) (fr : ∀ r ∈ rs,r.fit w) (lb : w.heap.size ≤ B) (lm : w.heap.size ≤ M) : WK w.heap.size v B M ta tl tc ra rl rc ea el ec now began puts ts rs es m D := by
  have hX : ∀ X,Mine B M ta ra ea X → w.heap.size ≤ X := fun X hX => by
    rcases hX with rfl | rfl | hX | hX | hX
    · exact lb
    · exact lm
    · exact (own_blk_lt ht hX).1
    · exact (own_blk_lt hr hX).1
    · exact (own_blk_lt he hX).1
  exact ⟨hb,hm,ht,hr,he,fun t h => (ft t h).below hbel,fun r h => (fr r h).below hbel,fun t h X hx => tfit_off (ft t h) (hX X hx),fun r h X hx => rfit_off (fr r h) (hX X hx),lb,lm⟩
theorem BG.under (h : BG w u fo B M ta tl tc ra rl rc ea el ec now began ts rs es) (hb : Below u.heap.size u v) : BG w v fo B M ta tl tc ra rl rc ea el ec now began ts rs es :=
  ⟨(hb.block _ (fb_lt h.f)).trans h.f,h.k.under hb,h.ft,h.fr,h.lo,below_tr h.bel hb⟩
theorem BG.start {o : Obj} {base : Nat} (hf : v.heap[w.heap.size]? = some fo) (ht : v.ownsRow base 59 6 (.slice ta tl tc) tl (tdCells ts)) (hbase : w.heap.size ≤ base) (ft : ∀ t ∈ ts,TFit w t) (hm : v.ownsMap Tryz.prog 2 (plainElem Tryz.prog 3) M tl (openD ts tl)) (hM : w.heap.size ≤ M) (hb : Below w.heap.size w v) (ho : o = workO ta tl tc M none 0 0 none 0 0 now 0 0) :
    BG w (v.alloc o) fo v.heap.size M ta tl tc none 0 0 none 0 0 now 0 ts [] [] := by
  subst ho
  have hb1 := fbelow_new v (workO ta tl tc M none 0 0 none 0 0 now 0 0)
  have hlt := fb_lt hf
  exact ⟨(hb1.block _ hlt).trans hf,wk_of (below_tr hb hb1) (heap_alloc_new _ _) (hm.alloc _) (own_base (ht.alloc _) hbase) (World.ownsRow_nil _ _ _ _) (World.ownsRow_nil _ _ _ _) ft (fun r hr => by cases hr) (Nat.le_of_lt hlt) hM,ft,fun r hr => (by cases hr),hlt,below_tr hb hb1⟩
theorem BG.rings {a1 : Option Addr} {c1 base n : Nat} (h : BG w u fo B M ta tl tc none 0 0 none 0 0 now 0 ts [] []) (hg : u.grownBy v none) (ho : v.ownsRow base 63 4 (.slice a1 n c1) n (rdCells rs)) (hB : B < base) (hf : ∀ r ∈ rs,r.fit w) :
    v.heap[B]? = some (workO ta tl tc M none 0 0 none 0 0 now 0 0) ∧ BG w (v.setCell ⟨B,2,none⟩ (.slice a1 n c1)) fo B M ta tl tc a1 n c1 none 0 0 now 0 ts rs [] := by
  have h1 := h.under (below_of_grown hg)
  obtain ⟨k1,k3⟩ := h1.k.box 2 (.slice a1 n c1)
  have k2 := h1.bel.setCell (p := ⟨B,2,none⟩) (Nat.le_of_lt h1.lo) (.slice a1 n c1)
  exact ⟨h1.k.b,(k1.block _ (fb_lt h1.f) (by have := h1.lo; simp; omega)).trans h1.f,wk_of k2 k3 (h1.k.m.kept k1 (by have := h1.k.bm; simp; omega)) (own_keep h1.k.t k1 (.inr (own_ne h1.k.t h1.k.b (by decide)))) (own_base (ownsRow_setCell_below ho (a := ⟨B,2,none⟩) hB _) (Nat.le_of_lt (Nat.lt_trans h1.lo hB))) (World.ownsRow_nil _ _ _ _) h1.ft hf h1.k.lb h1.k.lm,h1.ft,hf,h1.lo,k2⟩
theorem BG.eps {a1 : Option Addr} {c1 base n : Nat} (h : BG w u fo B M ta tl tc ra rl rc none 0 0 now 0 ts rs []) (hg : u.grownBy v none) (ho : v.ownsRow base 2 1 (.slice a1 n c1) n (numCells es)) (hB : B < base) :
    v.heap[B]? = some (workO ta tl tc M ra rl rc none 0 0 now 0 0) ∧ BG w (v.setCell ⟨B,3,none⟩ (.slice a1 n c1)) fo B M ta tl tc ra rl rc a1 n c1 now 0 ts rs es := by
  have h1 := h.under (below_of_grown hg)
  obtain ⟨k1,k3⟩ := h1.k.box 3 (.slice a1 n c1)
  have k2 := h1.bel.setCell (p := ⟨B,3,none⟩) (Nat.le_of_lt h1.lo) (.slice a1 n c1)
  exact ⟨h1.k.b,(k1.block _ (fb_lt h1.f) (by have := h1.lo; simp; omega)).trans h1.f,wk_of k2 k3 (h1.k.m.kept k1 (by have := h1.k.bm; simp; omega)) (own_keep h1.k.t k1 (.inr (own_ne h1.k.t h1.k.b (by decide)))) (own_keep h1.k.r k1 (.inr (own_ne h1.k.r h1.k.b (by decide)))) (own_base (ownsRow_setCell_below ho (a := ⟨B,3,none⟩) hB _) (Nat.le_of_lt (Nat.lt_trans h1.lo hB))) h1.ft h1.fr h1.k.lb h1.k.lm,h1.ft,h1.fr,h1.lo,k2⟩
theorem BG.setBegan (h : BG w u fo B M ta tl tc ra rl rc ea el ec now began ts rs es) (y : Int) : BG w (u.setCell ⟨B,5,none⟩ (.int .i64 y)) fo B M ta tl tc ra rl rc ea el ec now y ts rs es := by
  obtain ⟨k1,k3⟩ := h.k.box 5 (.int .i64 y)
  exact ⟨(k1.block _ (fb_lt h.f) (by have := h.lo; simp; omega)).trans h.f,h.k.put k1 k3,h.ft,h.fr,h.lo,h.bel.setCell (p := ⟨B,5,none⟩) (Nat.le_of_lt h.lo) _⟩
end
def Started (lo : Nat) (w' : World) (x : Ending) (rl tl : Nat) (now : Int) (rs : List RD) (es : List Int) (ts : List TD) : Prop :=
  ∃ (B M : Nat) (ta : Option Addr) (tc : Nat) (ra : Option Addr) (rc : Nat) (ea : Option Addr) (ec : Nat),x = .returned (.tuple #[.pointer (some ⟨B,0,none⟩),.nilIface]) ∧
    Hid (WK lo w' B M ta tl tc ra rl rc ea 4 ec now (endSum rs) 0 ts rs es tl (openD ts tl))
theorem sizes_rl (w : World) (ra : Option Addr) (rl : Nat) (ea : Option Addr) (el : Nat) (ta : Option Addr) (tl : Nat) (rs : List RD) (es : List Int) (ts : List TD) (now : Int) (hi : FIn w ra rl ea el ta tl rs es ts) (h : ¬ (1 ≤ rl ∧ rl ≤ 4 ∧ el = 4 ∧ tl ≤ 12)) : fabRightB rs es ts now = false := by
  have h1 := hi.rs.1
  have h2 := hi.es.1
  have h3 := hi.ts.1
  have : fabSizesB rs es ts = false := decide_eq_false (by rw [h1,h2,h3]; exact h)
  simp [fabRightB,this]
theorem fab_parts {rs : List RD} {es : List Int} {ts : List TD} {now : Int} (hs : 1 ≤ rs.length ∧ rs.length ≤ 4 ∧ es.length = 4 ∧ ts.length ≤ 12) : fabRightB rs es ts now = ((es.all timeB && timeB now) && txnsFitB es rs.length now ts && ringsFitB ts rs) := by
  have : fabSizesB rs es ts = true := decide_eq_true hs
  unfold fabRightB
  rw [this,Bool.true_and,Bool.and_comm (timeB now)]
theorem fits_up {es : List Int} {n : Nat} {now : Int} {ts : List TD} (h : txnsFitB es n now ts = true) : ∀ t ∈ ts,upB t.rs = true ∧ upB t.ls = true := fun t ht => by
  simp only [txnsFitB,Bool.and_eq_true,List.all_eq_true] at h
  have h1 := h.1 t ht
  simp only [txnFitB,Bool.and_eq_true] at h1
  have h2 := txnRight_bnd h1.1.1.1
  have h3 := h2.2.2.2.2.1
  have h4 := h2.2.2.2.2.2
  simp only [ringsB,Bool.and_eq_true] at h3 h4
  exact ⟨h3.2,h4.2⟩
theorem fit_firsts {ts : List TD} {rs : List RD} (h : ringsFitB ts rs = true) : ∀ r ∈ rs,0 ≤ r.first ∧ r.first ≤ 1000000 := fun r hr => by
  obtain ⟨i,hi,rfl⟩ := List.getElem_of_mem hr
  have h1 := of_decide_eq_true h i hi hi
  simp only [ringFitB,Bool.and_eq_true] at h1
  have h2 : ringRightB rs[i].cap rs[i].first rs[i].recs rs[i].curs = true := by simp_all
  exact (right_first h2).1
end Go.Proofs.YtahccighonddaaaGreatDoor
namespace Go.Proofs.YtahccighonddaaaGreatDoor
open Go.RowKit Go.Maps
attribute [local go_sem ↓] Go.wp_at_zero Go.wp_at_succ
set_option linter.unusedSimpArgs false
end Go.Proofs.YtahccighonddaaaGreatDoor
