import Derived.Test.YtahccighonddaaaGreatDoorFabOwnSet2
import Derived.Test.YtahccighonddaaaGreatDoorFabD
import Derived.Test.YtahccighonddaaaGreatDoorRingFault
import Derived.Test.YtahccighonddaaaGreatDoorSpecHear2
import Derived.Defers
import Derived.Recover
import Derived.Laws.Pointers
import Derived.Test.YtahccighonddaaaGreatDoorFabEnd
import Derived.Test.YtahccighonddaaaGreatDoorSpecMove
namespace Go.Proofs.YtahccighonddaaaGreatDoor
open Go.RowKit Go.Maps
attribute [local go_sem ↓] Go.wp_at_zero Go.wp_at_succ
set_option linter.unusedSimpArgs false
set_option linter.unusedVariables false
def Coded (aN aF aR aS aM aL : Addr) (y : Value) (c : Int) : Prop := ∀ u,Errs aN aF aR aS aM aL u → Calls Tryz.prog 88 #[y] u fun e u' => e = .returned (.int .i64 c) ∧ Below u.heap.size u u'
def WorkIll (aN aF aR aS aM aL : Addr) (c : Int) (x : Ending) : Prop := ∃ (n : Int) (t : TypeId) (y : Value),x = .returned (.tuple #[.int .i64 n,.iface t y]) ∧ Coded aN aF aR aS aM aL (.iface t y) c
def WorkOk (lo B : Nat) (began : Int) (F : FV) (x : Ending) (v : World) : Prop :=
  ∃ (M : Nat) (ta : Option Addr) (tl tc : Nat) (ra : Option Addr) (rl rc : Nat) (ea : Option Addr) (ec : Nat) (puts : Int) (ts : List TD) (rs : List RD) (m : Nat) (D : DataW Unit),
    x = .returned (.tuple #[.int .i64 F.n,.nilIface]) ∧ Hid (WK lo v B M ta tl tc ra rl rc ea 4 ec F.now began puts ts rs F.es m D) ∧ endSum rs = began + puts ∧ (-9000000000 ≤ puts ∧ puts ≤ 9000000000) ∧ rl ≤ 4 ∧ tl ≤ 12 ∧ (∀ r ∈ rs,0 ≤ r.first ∧ r.first ≤ 1000000) ∧ FabSame F.rs rs F.ts ts
def WorkAns (aN aF aR aS aM aL : Addr) (lo B : Nat) (began : Int) (R : Except Int FV) (x : Ending) (v : World) : Prop :=
  match R with | .error c => WorkIll aN aF aR aS aM aL c x | .ok F => WorkOk lo B began F x v
theorem face_idle (p : Addr) (w : World) :
    CallsD Tryz.prog 86 #[.pointer (some p)] .returning w fun e u' w' => e = .returned (.tuple #[]) ∧ u' = .returning ∧ w' = w := by
  refine callsD_of_wpS Tryz.func86 rfl fun c₀ cs hu => ?_
  apply wpS_seq
  apply wpS_region
  simp [wpOpsS,go_sem,recoverD,hu,Tryz.ntmps86,Exit.thenS]
  refine wpS_cond (t := false) (by simp [Act.eval,Array.replicate]) ?_
  simp only [Bool.false_eq_true,if_false]
  refine wpS_of_wp (wp_skip ?_)
  cases c₀
  simp_all [bodyPostS,results,Tryz.results86]
theorem endSum_bnd {rs : List RD} (h : ∀ r ∈ rs,0 ≤ r.first + (r.rl : Int) ∧ r.first + (r.rl : Int) ≤ 2100000) : 0 ≤ endSum rs ∧ endSum rs ≤ 2100000 * (rs.length : Int) := by
  induction rs with
  | nil => simp [endSum]
  | cons r l ih =>
    have h1 := h r (List.mem_cons_self ..)
    have h2 := ih fun q hq => h q (List.mem_cons_of_mem _ hq)
    have e : endSum (r :: l) = r.first + (r.rl : Int) + endSum l := by simp [endSum]
    rw [e]
    simp only [List.length_cons]
    omega
variable {aN aF aR aS aM aL : Addr}
end Go.Proofs.YtahccighonddaaaGreatDoor
namespace Go.Proofs.YtahccighonddaaaGreatDoor
open Go.RowKit
set_option linter.unusedSimpArgs false
set_option linter.unusedVariables false
structure FBX where
  ra : Option Addr
  rl : Nat
  rc : Nat
  ea : Option Addr
  el : Nat
  ec : Nat
  ta : Option Addr
  tl : Nat
  tc : Nat
  rs : List RX
  es : List Value
  ts : List TXN
def FBX.in (d : FBX) : List Nat := d.rs.flatMap RX.blks ++ (d.ts.flatMap TXN.blks ++ (blk? d.ea).toList)
def FBX.blk (d : FBX) (X : Nat) : Prop := blk? d.ra = some X ∨ blk? d.ta = some X ∨ X ∈ d.in
structure FBX.own (d : FBX) (w : World) (base : Nat) : Prop where
  r : w.ownsRow base 63 4 (.slice d.ra d.rl d.rc) d.rl (rxCells d.rs)
  e : w.ownsRow base 2 1 (.slice d.ea d.el d.ec) d.el d.es
  t : w.ownsRow base 59 6 (.slice d.ta d.tl d.tc) d.tl (txCells d.ts)
  ri : ∀ (j : Nat) (x : RX),d.rs[j]? = some x → x.own w base
  ti : ∀ (j : Nat) (x : TXN),d.ts[j]? = some x → x.own w base
  nd : d.in.Nodup
def FBX.cnt (d : FBX) : Nat := szSum RX.cnt d.rs + d.el + szSum TXN.cnt d.ts
def FBX.markR (K : Nat) (d : FBX) : FBX := ⟨d.ra,d.rl,d.rc,d.ea,d.el,d.ec,d.ta,d.tl,d.tc,mTo RX.mark RX.cnt K d.rs d.rl,d.es,d.ts⟩
def FBX.markE (K : Nat) (d : FBX) : FBX := ⟨d.ra,d.rl,d.rc,d.ea,d.el,d.ec,d.ta,d.tl,d.tc,d.rs,mNum K d.es d.el,d.ts⟩
def FBX.markT (K : Nat) (d : FBX) : FBX := ⟨d.ra,d.rl,d.rc,d.ea,d.el,d.ec,d.ta,d.tl,d.tc,d.rs,d.es,mTo TXN.mark TXN.cnt K d.ts d.tl⟩
def FBX.mark (K : Nat) (d : FBX) : FBX := ((d.markR K).markE (K + szSum RX.cnt d.rs)).markT (K + szSum RX.cnt d.rs + d.el)
theorem FBX.own.lt {d : FBX} {w : World} {base X : Nat} (h : d.own w base) (hX : d.blk X) : base ≤ X ∧ X < w.heap.size := by
  rcases hX with hX | hX | hX
  · exact own_blk_lt h.r hX
  · exact own_blk_lt h.t hX
  · simp only [FBX.in,List.mem_append,List.mem_flatMap,Option.mem_toList] at hX
    rcases hX with ⟨r,hr,hX⟩ | ⟨t,ht,hX⟩ | hX
    · obtain ⟨j,hj⟩ := List.mem_iff_getElem?.1 hr
      exact (h.ri j r hj).lt hX
    · obtain ⟨j,hj⟩ := List.mem_iff_getElem?.1 ht
      exact (h.ti j t hj).lt hX
    · exact own_blk_lt h.e hX
theorem FBX.own.fr {d : FBX} {w w' : World} {base : Nat} {S : Nat → Prop} (h : d.own w base) (hf : Fr S w w') (hs : ∀ X,d.blk X → ¬ S X) : d.own w' base :=
  ⟨hf.own h.r fun X hX => hs X (.inl hX),hf.own h.e fun X hX => hs X (.inr (.inr (by simp [FBX.in,hX]))),hf.own h.t fun X hX => hs X (.inr (.inl hX)),
    fun j x hj => (h.ri j x hj).fr hf fun X hX => hs X (.inr (.inr (by simp only [FBX.in,List.mem_append]; exact .inl (flat_mem hj hX)))),
    fun j x hj => (h.ti j x hj).fr hf fun X hX => hs X (.inr (.inr (by simp only [FBX.in,List.mem_append]; exact .inr (.inl (flat_mem hj hX))))),h.nd⟩
theorem FBX.own.below {d : FBX} {w w' : World} {base : Nat} (h : d.own w base) (hb : Below w.heap.size w w') : d.own w' base := h.fr (Fr.ofBelow hb (fun _ => False)) (fun _ _ h => h)
theorem FBX.own.stepR {d : FBX} {w w' : World} {base K : Nat} (h : d.own w base) (hr : w'.ownsRow base 63 4 (.slice d.ra d.rl d.rc) d.rl (rxCells (d.markR K).rs)) (ho : ∀ (j : Nat) (x : RX),(d.markR K).rs[j]? = some x → x.own w' base) (hf : Fr (fun X => blk? d.ra = some X ∨ X ∈ d.rs.flatMap RX.blks) w w') : (d.markR K).own w' base := by
  have hb : (d.markR K).rs.flatMap RX.blks = d.rs.flatMap RX.blks := flat_map RX.blks _ (mTo_map (f := RX.mark) RX.blks (fun _ _ => rfl) _)
  have h0 := h.nd
  unfold FBX.in at h0
  obtain ⟨n1,n2,n3⟩ := List.nodup_append.1 h0
  refine ⟨hr,hf.own h.e fun X hX hS => ?_,hf.own h.t fun X hX hS => ?_,ho,fun j x hj => (h.ti j x hj).fr hf fun X hX hS => ?_,by unfold FBX.in; rw [hb]; exact h0⟩
  · rcases hS with hS | hS
    · exact own_ne_own h.r h.e (by decide) hS hX
    · exact n3 X hS X (by simp only [List.mem_append,Option.mem_toList]; exact .inr hX) rfl
  · rcases hS with hS | hS
    · exact own_ne_own h.r h.t (by decide) hS hX
    · obtain ⟨r,hr,hX2⟩ := List.mem_flatMap.1 hS
      obtain ⟨j,hj⟩ := List.mem_iff_getElem?.1 hr
      obtain ⟨C,hC⟩ := own_typed h.t hX
      exact (h.ri j r hj).not hC (by decide) (by decide) hX2
  · rcases hS with hS | hS
    · obtain ⟨C,hC⟩ := own_typed h.r hS
      exact (h.ti j x hj).not hC (by decide) hX
    · exact n3 X hS X (by simp only [List.mem_append]; exact .inl (flat_mem hj hX)) rfl
theorem FBX.own.stepE {d : FBX} {w w' : World} {base K : Nat} (h : d.own w base) (he : w'.ownsRow base 2 1 (.slice d.ea d.el d.ec) d.el (mNum K d.es d.el)) (hg : w.grownBy w' (blk? d.ea)) : (d.markE K).own w' base := by
  have hf : Fr (fun X => blk? d.ea = some X) w w' := Fr.ofGrown hg (fun X e => e)
  have h0 := h.nd
  unfold FBX.in at h0
  obtain ⟨n1,n2,n3⟩ := List.nodup_append.1 h0
  obtain ⟨m1,m2,m3⟩ := List.nodup_append.1 n2
  refine ⟨hf.own h.r fun X hX hS => ?_,he,hf.own h.t fun X hX hS => ?_,fun j x hj => (h.ri j x hj).fr hf fun X hX hS => ?_,fun j x hj => (h.ti j x hj).fr hf fun X hX hS => ?_,h0⟩
  · exact own_ne_own h.e h.r (by decide) hS hX
  · exact own_ne_own h.e h.t (by decide) hS hX
  · exact n3 X (flat_mem hj hX) X (by simp only [List.mem_append,Option.mem_toList]; exact .inr hS) rfl
  · exact m3 X (flat_mem hj hX) X (by simp only [Option.mem_toList]; exact hS) rfl
theorem FBX.own.stepT {d : FBX} {w w' : World} {base K : Nat} (h : d.own w base) (ht : w'.ownsRow base 59 6 (.slice d.ta d.tl d.tc) d.tl (txCells (d.markT K).ts)) (ho : ∀ (j : Nat) (x : TXN),(d.markT K).ts[j]? = some x → x.own w' base) (hf : Fr (fun X => blk? d.ta = some X ∨ X ∈ d.ts.flatMap TXN.blks) w w') : (d.markT K).own w' base := by
  have hb : (d.markT K).ts.flatMap TXN.blks = d.ts.flatMap TXN.blks := flat_map TXN.blks _ (mTo_map (f := TXN.mark) TXN.blks (fun _ _ => rfl) _)
  have h0 := h.nd
  unfold FBX.in at h0
  obtain ⟨n1,n2,n3⟩ := List.nodup_append.1 h0
  obtain ⟨m1,m2,m3⟩ := List.nodup_append.1 n2
  refine ⟨hf.own h.r fun X hX hS => ?_,hf.own h.e fun X hX hS => ?_,ht,fun j x hj => (h.ri j x hj).fr hf fun X hX hS => ?_,ho,by unfold FBX.in; rw [hb]; exact h0⟩
  · rcases hS with hS | hS
    · exact own_ne_own h.t h.r (by decide) hS hX
    · obtain ⟨r,hr,hX2⟩ := List.mem_flatMap.1 hS
      obtain ⟨j,hj⟩ := List.mem_iff_getElem?.1 hr
      obtain ⟨C,hC⟩ := own_typed h.r hX
      exact (h.ti j r hj).not hC (by decide) hX2
  · rcases hS with hS | hS
    · exact own_ne_own h.t h.e (by decide) hS hX
    · exact m3 X hS X (by simp only [Option.mem_toList]; exact hX) rfl
  · rcases hS with hS | hS
    · obtain ⟨C,hC⟩ := own_typed h.t hS
      exact (h.ri j x hj).not hC (by decide) (by decide) hX
    · exact n3 X (flat_mem hj hX) X (by simp only [List.mem_append]; exact .inl hS) rfl
theorem fx_new {d : FBX} {w : World} {base : Nat} (h : d.own w base) (o : Obj) : ¬ d.blk w.heap.size := fun hX => by have := (h.lt hX).2; omega
set_option maxHeartbeats 2000000 in
theorem law_markFabX (d : FBX) (now : Int) (base K : Nat) (w : World) (h : d.own w base) (hK : 0 < K) (hm : K + d.cnt ≤ 100000000) :
    Calls Tryz.prog 13 #[fabVal d.ra d.rl d.rc d.ea d.el d.ec d.ta d.tl d.tc now,.int .i64 K] w fun e w' => e = .returned (.int .i64 ((K + d.cnt : Nat) : Int)) ∧ (d.mark K).own w' base ∧ Fr d.blk w w' := by
  have HD : Hid (d.own (w.alloc (fabO d.ra d.rl d.rc d.ea d.el d.ec d.ta d.tl d.tc now)) base) := h.below (fbelow_new _ _)
  have HNB : Hid (¬ d.blk w.heap.size) := fx_new h (fabO d.ra d.rl d.rc d.ea d.el d.ec d.ta d.tl d.tc now)
  have HF0 : Hid (Fr d.blk w (w.alloc (fabO d.ra d.rl d.rc d.ea d.el d.ec d.ta d.tl d.tc now))) := Fr.ofBelow (fbelow_new _ _) _
  have HBX : Hid ((w.alloc (fabO d.ra d.rl d.rc d.ea d.el d.ec d.ta d.tl d.tc now)).heap[w.heap.size]? = some (fabO d.ra d.rl d.rc d.ea d.el d.ec d.ta d.tl d.tc now)) := heap_alloc_new _ _
  have HM : Hid (K + d.cnt ≤ 100000000) := hm
  have hc : d.cnt = szSum RX.cnt d.rs + d.el + szSum TXN.cnt d.ts := rfl
  rw [hc] at hm ⊢
  have HRB : Hid (∀ X,(blk? d.ra = some X ∨ X ∈ d.rs.flatMap RX.blks) → d.blk X) := fun X hX => hX.elim .inl fun h => .inr (.inr (by simp only [FBX.in,List.mem_append]; exact .inl h))
  have HTB : Hid (∀ X,(blk? d.ta = some X ∨ X ∈ d.ts.flatMap TXN.blks) → d.blk X) := fun X hX => hX.elim (fun h => .inr (.inl h)) fun h => .inr (.inr (by simp only [FBX.in,List.mem_append]; exact .inr (.inl h)))
  have HEB : Hid (∀ X,blk? d.ea = some X → d.blk X) := fun X hX => .inr (.inr (by simp [FBX.in,hX]))
  have HND : Hid ((d.rs.flatMap RX.blks).Nodup) := (List.nodup_append.1 h.nd).1
  have HNT : Hid ((d.ts.flatMap TXN.blks).Nodup) := (List.nodup_append.1 (List.nodup_append.1 h.nd).2.1).1
  clear h hc
  go_enter Tryz.func13,Tryz.ntmps13
  go_wp2_with fail
  refine (law_markRingsX d.ra d.rl d.rc base d.rs K _ HD.out.r HD.out.ri HND.out hK (by omega)).mono ?_
  rintro e w1 ⟨rfl,hr1,ho1,hf1⟩
  have HD1 : Hid ((d.markR K).own w1 base) := HD.out.stepR hr1 ho1 hf1
  have HF1 : Hid (Fr d.blk w w1) := HF0.out.trans (hf1.mono HRB.out)
  have HB1 : Hid (w1.heap[w.heap.size]? = some (fabO d.ra d.rl d.rc d.ea d.el d.ec d.ta d.tl d.tc now)) := hf1.blk HBX.out (fun e => HNB.out (HRB.out _ e))
  have c1 := fun o => fb_cell HB1.out o
  clear hr1 ho1 hf1 HD HF0 HBX
  go_wp2_with fail
  refine (law_markNums d.ea d.el d.ec base d.es (K + szSum RX.cnt d.rs) _ HD1.out.e (by omega) (by omega)).mono ?_
  rintro e w2 ⟨rfl,ho2,hg2⟩
  rw [ownBlock_slice] at hg2
  have HD2 : Hid (((d.markR K).markE (K + szSum RX.cnt d.rs)).own w2 base) := HD1.out.stepE ho2 hg2
  have hf2 : Fr (fun X => blk? d.ea = some X) w1 w2 := Fr.ofGrown hg2 (fun X e => e)
  have HF2 : Hid (Fr d.blk w w2) := HF1.out.trans (hf2.mono HEB.out)
  have HB2 : Hid (w2.heap[w.heap.size]? = some (fabO d.ra d.rl d.rc d.ea d.el d.ec d.ta d.tl d.tc now)) := hf2.blk HB1.out (fun e => HNB.out (HEB.out _ e))
  have c2 := fun o => fb_cell HB2.out o
  clear ho2 hg2 hf2 HD1 HF1 HB1 c1
  go_wp2_with fail
  refine (law_markTxnsX d.ta d.tl d.tc base d.ts (K + szSum RX.cnt d.rs + d.el) _ HD2.out.t HD2.out.ti HNT.out (by omega) (by omega)).mono ?_
  rintro e w3 ⟨rfl,ht3,ho3,hf3⟩
  have HD3 : Hid ((d.mark K).own w3 base) := HD2.out.stepT ht3 ho3 hf3
  have HF3 : Hid (Fr d.blk w w3) := HF2.out.trans (hf3.mono HTB.out)
  clear ht3 ho3 hf3
  go_wp2
  go_ret
  exact ⟨ret_int (by omega),HD3.out,HF3.out⟩
set_option maxHeartbeats 2000000 in
theorem law_heldFabX (d : FBX) (now : Int) (base K : Nat) (w : World) (h : (d.mark K).own w base) (hK : 0 < K) (hm : K + d.cnt ≤ 100000000) :
    Calls Tryz.prog 53 #[fabVal d.ra d.rl d.rc d.ea d.el d.ec d.ta d.tl d.tc now,.int .i64 K] w fun e w' => e = .returned (.int .i64 ((K + d.cnt : Nat) : Int)) ∧ Below w.heap.size w w' := by
  have HD : Hid ((d.mark K).own w base) := h
  have hc : d.cnt = szSum RX.cnt d.rs + d.el + szSum TXN.cnt d.ts := rfl
  rw [hc] at hm ⊢
  have HB0 : Hid (Below w.heap.size w (w.alloc (fabO d.ra d.rl d.rc d.ea d.el d.ec d.ta d.tl d.tc now))) := fbelow_new _ _
  have HBX : Hid ((w.alloc (fabO d.ra d.rl d.rc d.ea d.el d.ec d.ta d.tl d.tc now)).heap[w.heap.size]? = some (fabO d.ra d.rl d.rc d.ea d.el d.ec d.ta d.tl d.tc now)) := heap_alloc_new _ _
  have HEL : Hid (d.es.length = d.el) := by have h1 := h.e.1; simp only [FBX.mark,FBX.markE,FBX.markR,FBX.markT,mNum_length] at h1; show _ = _; omega
  clear h hc
  go_enter Tryz.func53,Tryz.ntmps53
  go_wp2_with fail
  refine (law_heldRingsX d.ra d.rl d.rc base d.rs K _ (HD.out.below HB0.out).r (HD.out.below HB0.out).ri hK (by omega)).mono ?_
  rintro e w1 ⟨rfl,hb1⟩
  have HB1 : Hid (Below w.heap.size w w1) := below_tr HB0.out hb1
  have HBX1 : Hid (w1.heap[w.heap.size]? = some (fabO d.ra d.rl d.rc d.ea d.el d.ec d.ta d.tl d.tc now)) := (hb1.block _ (fb_lt HBX.out)).trans HBX.out
  have c1 := fun o => fb_cell HBX1.out o
  clear hb1 HBX
  go_wp2_with fail
  refine (law_heldNums d.ea d.el d.ec base d.es (K + szSum RX.cnt d.rs) _ (HD.out.below HB1.out).e HEL.out (by omega) (by omega)).mono ?_
  rintro e w2 ⟨rfl,hb2⟩
  have HB2 : Hid (Below w.heap.size w w2) := below_tr HB1.out hb2
  have HBX2 : Hid (w2.heap[w.heap.size]? = some (fabO d.ra d.rl d.rc d.ea d.el d.ec d.ta d.tl d.tc now)) := (hb2.block _ (fb_lt HBX1.out)).trans HBX1.out
  have c2 := fun o => fb_cell HBX2.out o
  clear hb2 HBX1 c1
  go_wp2_with fail
  refine (law_heldTxnsX d.ta d.tl d.tc base d.ts (K + szSum RX.cnt d.rs + d.el) _ (HD.out.below HB2.out).t (HD.out.below HB2.out).ti (by omega) (by omega)).mono ?_
  rintro e w3 ⟨rfl,hb3⟩
  have HB3 : Hid (Below w.heap.size w w3) := below_tr HB2.out hb3
  clear hb3
  go_wp2
  go_ret
  exact ⟨ret_int (by omega),HB3.out⟩
def FD.x (d : FD) : FBX := ⟨d.ra,d.rl,d.rc,d.ea,d.el,d.ec,d.ta,d.tl,d.tc,d.rs.map RD.x,numCells d.es,d.ts.map TD.x⟩
theorem FD.in_eq (d : FD) : d.x.in = fabBlks d.rs d.ts d.ea := by
  simp only [FBX.in,FD.x,fabBlks,List.flatMap_map]
  rfl
theorem FD.own.fx {d : FD} {w : World} {base : Nat} (h : d.own w base) : d.x.own w base := by
  refine ⟨?_,h.e,?_,fun j x hj => ?_,fun j x hj => ?_,by rw [FD.in_eq]; exact h.nd⟩
  · rw [show rxCells d.x.rs = rdCells d.rs by simp only [rxCells,FD.x,rdCells,List.flatMap_map]; rfl]
    exact h.r
  · rw [show txCells d.x.ts = tdCells d.ts by simp only [txCells,FD.x,tdCells,List.flatMap_map]; rfl]
    exact h.t
  · simp only [FD.x,List.getElem?_map] at hj
    obtain ⟨r,hr,rfl⟩ := Option.map_eq_some_iff.1 hj
    exact h.ri r (List.mem_of_getElem? hr)
  · simp only [FD.x,List.getElem?_map] at hj
    obtain ⟨t,ht,rfl⟩ := Option.map_eq_some_iff.1 hj
    exact h.ti t (List.mem_of_getElem? ht)
def FD.blk (d : FD) (X : Nat) : Prop := d.x.blk X
theorem FD.own.fr {d : FD} {w w' : World} {base : Nat} {S : Nat → Prop} (h : d.own w base) (hf : Fr S w w') (hs : ∀ X,d.blk X → ¬ S X) : d.own w' base := by
  have hin : ∀ X,X ∈ fabBlks d.rs d.ts d.ea → ¬ S X := fun X hX => hs X (.inr (.inr (by rw [FD.in_eq]; exact hX)))
  refine ⟨hf.own h.r fun X hX => hs X (.inl hX),hf.own h.e fun X hX => hin X (by simp [fabBlks,hX]),hf.own h.t fun X hX => hs X (.inr (.inl hX)),fun r hr => ?_,fun t ht => ?_,h.nd⟩
  · refine ⟨hf.own (h.ri r hr).1 fun X hX => hin X ?_,hf.own (h.ri r hr).2 fun X hX => hin X ?_⟩
    all_goals
      simp only [fabBlks,List.mem_append,List.mem_flatMap]
      exact .inl ⟨r,hr,by simp [RD.blks,hX]⟩
  · refine ⟨hf.own (h.ti t ht).1 fun X hX => hin X ?_,hf.own (h.ti t ht).2.1 fun X hX => hin X ?_,(h.ti t ht).2.2⟩
    all_goals
      simp only [fabBlks,List.mem_append,List.mem_flatMap]
      exact .inr (.inl ⟨t,ht,by simp [TD.blks,hX]⟩)
structure FTSm (T : FT) : Prop where
  rl : T.rs.length ≤ 4
  el : T.es.length ≤ 4
  tl : T.ts.length ≤ 12
  r : ∀ r ∈ T.rs,r.recs.length ≤ 1048576 ∧ r.curs.length ≤ 1048576 ∧ ∀ s ∈ r.recs,s.size ≤ 1048576
  t : ∀ t ∈ T.ts,t.rs.length ≤ 1048576 ∧ t.ls.length ≤ 1048576 ∧ -9223372036854775808 ≤ t.p ∧ t.p ≤ 9223372036854775807
theorem strip_mem {α : Type} {f : α → α} {l m : List α} (h : l.map f = m.map f) {x : α} (hx : x ∈ l) : ∃ y ∈ m,f x = f y := by
  have h1 : f x ∈ m.map f := by rw [← h]; exact List.mem_map_of_mem hx
  obtain ⟨y,hy,e⟩ := List.mem_map.1 h1
  exact ⟨y,hy,e.symm⟩
theorem FD.own.lens {d : FD} {w : World} {base : Nat} (h : d.own w base) : d.rs.length = d.rl ∧ d.es.length = d.el ∧ d.ts.length = d.tl := by
  refine ⟨h.rfits,?_,h.tfits⟩
  have h1 := h.e.1
  simp only [List.length_map,Nat.mul_one] at h1
  exact h1
theorem FD.own.sm {d : FD} {w : World} {base : Nat} {T : FT} (h : d.own w base) (hs : d.same T) (hT : FTSm T) : (∀ r ∈ d.rs,r.rl ≤ 1048576 ∧ r.cl ≤ 1048576 ∧ ∀ s ∈ r.recs,s.size ≤ 1048576) ∧ ∀ t ∈ d.ts,t.rl ≤ 1048576 ∧ t.ll ≤ 1048576 ∧ -9223372036854775808 ≤ t.p ∧ t.p ≤ 9223372036854775807 := by
  refine ⟨fun r hr => ?_,fun t ht => ?_⟩
  · obtain ⟨q,hq,e⟩ := strip_mem hs.1 hr
    simp only [RD.strip,RD.mk.injEq] at e
    obtain ⟨_,_,_,_,_,_,_,_,e1,e2⟩ := e
    obtain ⟨h1,h2,h3⟩ := hT.r q hq
    have g1 := (h.ri r hr).1.1
    have g2 := (h.ri r hr).2.1
    rw [List.length_map] at g1
    rw [curCells_length] at g2
    rw [e1] at g1 ⊢
    rw [e2] at g2
    exact ⟨by omega,by omega,h3⟩
  · obtain ⟨q,hq,e⟩ := strip_mem hs.2.2 ht
    simp only [TD.strip,TD.mk.injEq] at e
    obtain ⟨e0,_,_,_,_,_,_,_,_,_,e1,e2⟩ := e
    obtain ⟨h1,h2,h3⟩ := hT.t q hq
    have g1 := (h.ti t ht).1.1
    have g2 := (h.ti t ht).2.1.1
    simp only [List.length_map] at g1 g2
    rw [e1] at g1
    rw [e2] at g2
    rw [e0]
    exact ⟨by omega,by omega,h3⟩
theorem FD.own.fin {d : FD} {w : World} {base : Nat} {T : FT} (h : d.own w base) (hs : d.same T) (hT : FTSm T) : FIn w d.ra d.rl d.ea d.el d.ta d.tl d.rs d.es d.ts := by
  obtain ⟨l1,l2,l3⟩ := h.lens
  obtain ⟨m1,m2⟩ := h.sm hs hT
  have e1 := congrArg List.length hs.1
  have e2 := congrArg List.length hs.2.1
  have e3 := congrArg List.length hs.2.2
  simp only [List.length_map] at e1 e3
  have k1 := hT.rl
  have k2 := hT.el
  have k3 := hT.tl
  refine ⟨rngs_own (Q := fun w r => r.fit w) h.r fun r hr => ?_,own_nums h.e,txs_own (Q := fun w t => TFit w t) h.t fun t ht => ?_,by omega,by omega,by omega⟩
  · exact own_fit2 (h.ri r hr) (m1 r hr).2.2 (m1 r hr).1 (m1 r hr).2.1 (own_capT (h.ri r hr).1) (own_capT (h.ri r hr).2)
  · exact own_tfit (t := t) (h.ti t ht) (m2 t ht).1 (m2 t ht).2.1 (m2 t ht).2.2
theorem szSum_le {α : Type} {c : α → Nat} {l : List α} {B : Nat} (h : ∀ x ∈ l,c x ≤ B) : szSum c l ≤ l.length * B := by
  induction l with
  | nil => simp [szSum]
  | cons x t ih =>
    have h1 := h x (List.mem_cons_self ..)
    have h2 := ih fun y hy => h y (List.mem_cons_of_mem _ hy)
    have e : szSum c (x :: t) = c x + szSum c t := by simp [szSum]
    rw [e,List.length_cons,Nat.succ_mul]
    omega
theorem szSum_map {α β : Type} {c : β → Nat} {g : α → β} (l : List α) : szSum c (l.map g) = szSum (fun x => c (g x)) l := by
  simp [szSum,Function.comp_def]
theorem FD.own.few {d : FD} {w : World} {base : Nat} {T : FT} (h : d.own w base) (hs : d.same T) (hT : FTSm T) : d.x.cnt ≤ 50000000 := by
  obtain ⟨l1,l2,l3⟩ := h.lens
  obtain ⟨m1,m2⟩ := h.sm hs hT
  have e1 := congrArg List.length hs.1
  have e2 := congrArg List.length hs.2.1
  have e3 := congrArg List.length hs.2.2
  simp only [List.length_map] at e1 e3
  have k1 := hT.rl
  have k2 := hT.el
  have k3 := hT.tl
  have a1 : szSum RX.cnt (d.rs.map RD.x) ≤ d.rs.length * 3145730 := by
    rw [szSum_map]
    exact szSum_le fun r hr => by
      have := m1 r hr
      show 2 + r.rl + r.cl * 2 ≤ _
      omega
  have a2 : szSum TXN.cnt (d.ts.map TD.x) ≤ d.ts.length * 2097156 := by
    rw [szSum_map]
    exact szSum_le fun t ht => by
      have := m2 t ht
      show 4 + t.rl + t.ll ≤ _
      omega
  have a3 : d.rs.length * 3145730 ≤ 4 * 3145730 := Nat.mul_le_mul_right _ (by omega)
  have a4 : d.ts.length * 2097156 ≤ 12 * 2097156 := Nat.mul_le_mul_right _ (by omega)
  show szSum RX.cnt (d.rs.map RD.x) + d.el + szSum TXN.cnt (d.ts.map TD.x) ≤ _
  omega
end Go.Proofs.YtahccighonddaaaGreatDoor
namespace Go.Proofs.YtahccighonddaaaGreatDoor
open Go.RowKit
set_option linter.unusedSimpArgs false
set_option linter.unusedVariables false
structure RWo (w wr : World) (n : Nat) (zs : List Value) (l m : List RD) (k : Nat) : Prop where
  own : wr.ownsRow w.heap.size 63 4 (.slice (some ⟨w.heap.size,0,none⟩) n n) n (rdCells m ++ zs.drop (k * 4))
  len : m.length = k
  ow : ∀ r ∈ m,r.own wr (w.heap.size + 1)
  nd : (m.flatMap RD.blks).Nodup
  sz : m.map RD.sz = (l.take k).map RD.sz
  same : m.map RD.strip = (l.take k).map RD.strip
  bel : Below w.heap.size w wr
theorem RWo.step {w wr w2 : World} {n : Nat} {zs : List Value} {l m : List RD} {k : Nat} (h : RWo w wr n zs l m k) (hz : zs.length = n * 4) (hk : k < n) {r r' : RD} (hl : l[k]? = some r) (hs : r'.strip = r.strip) (hsz : r'.sz = r.sz) (hb : Below wr.heap.size wr w2) (hf : r'.own w2 wr.heap.size) :
    RWo w (set4 w2 w.heap.size (k * 4) (.int .i64 r'.cap) (.int .i64 r'.first) (.slice r'.ra r'.rl r'.rc) (.slice r'.ca r'.cl r'.cc)) n zs l (m ++ [r']) (k + 1) := by
  have hg := grown_set4 w2 w.heap.size (k * 4) (.int .i64 r'.cap) (.int .i64 r'.first) (.slice r'.ra r'.rl r'.rc) (.slice r'.ca r'.cl r'.cc)
  have h2 : w2.ownsRow w.heap.size 63 4 (.slice (some ⟨w.heap.size,0,none⟩) n n) n (rdCells m ++ zs.drop (k * 4)) := h.own.kept (below_grown hb) (.inr (by simp [Value.ownBlock]))
  have hwl : w.heap.size + 1 ≤ wr.heap.size := (h.own.lt w.heap.size rfl).2
  obtain ⟨hj,e⟩ := List.getElem?_eq_some_iff.1 hl
  refine ⟨?_,by simp [h.len],fun x hx => ?_,?_,?_,?_,?_⟩
  · have h3 := own_set4 h2 k (.int .i64 r'.cap) (.int .i64 r'.first) (.slice r'.ra r'.rl r'.rc) (.slice r'.ca r'.cl r'.cc)
    rw [app_set4 _ _ _ (by rw [rdCells_length,h.len]) (by omega)] at h3
    rw [show rdCells (m ++ [r']) = rdCells m ++ [.int .i64 r'.cap,.int .i64 r'.first,.slice r'.ra r'.rl r'.rc,.slice r'.ca r'.cl r'.cc] by simp [rdCells,RD.cells]]
    exact h3
  · rcases List.mem_append.1 hx with hx | hx
    · exact ((h.ow x hx).keep (tbelow_grown hb) (fun _ _ e => by cases e)).keep hg fun X hX e => by
        have := ((h.ow x hx).lt hX).1
        simp at e
        omega
    · rw [List.mem_singleton.1 hx]
      exact (hf.keep hg fun X hX e => by
        have := (hf.lt hX).1
        simp at e
        omega).mono hwl
  · rw [List.flatMap_append]
    refine nodup_two h.nd (by simpa using hf.nd) fun x hx y hy e => ?_
    obtain ⟨q,hq,hx⟩ := List.mem_flatMap.1 hx
    have h1 := ((h.ow q hq).lt hx).2
    have h2 := (hf.lt (by simpa using hy)).1
    omega
  · rw [List.take_succ_eq_append_getElem hj,List.map_append,List.map_append,h.sz,e]
    simp [hsz]
  · rw [List.take_succ_eq_append_getElem hj,List.map_append,List.map_append,h.same,e]
    simp [hs]
  · exact (below_tr h.bel hb).grown hg (below_tr h.bel hb).size (fun j e => by cases e; exact Nat.le_refl _)
set_option maxHeartbeats 2000000 in
theorem law_toRingsO (a : Option Addr) (n c : Nat) (l : List RD) (w : World) (hi : LRngs w a n l) (hn : n ≤ 1048576) (hs : ∀ r ∈ l,r.small) :
    Calls Tryz.prog 39 #[.slice a n c] w fun e w' => ∃ m : List RD,e = .returned (.slice (some ⟨w.heap.size,0,none⟩) n n) ∧ Hid (w'.ownsRow w.heap.size 63 4 (.slice (some ⟨w.heap.size,0,none⟩) n n) n (rdCells m)) ∧ Hid (∀ r ∈ m,r.own w' (w.heap.size + 1)) ∧ Hid ((m.flatMap RD.blks).Nodup) ∧ Hid (m.map RD.sz = l.map RD.sz) ∧ Hid (m.map RD.strip = l.map RD.strip) ∧ Below w.heap.size w w' := by
  obtain ⟨i0,hi0,hz0,hz1,hz2⟩ := info_parts info_ringF
  have HI : Hid (LRngs w a n l) := hi
  have HL : Hid (l.length = n) := hi.1
  have HS : Hid (∀ r ∈ l,r.small) := hs
  clear hi hs
  go_enter Tryz.func39,Tryz.ntmps39
  go_wp2_with (at_make; refine wpList_make_full _ rfl _ _ 28 rfl w.heap.size 63 i0 _ 4 Tryz.underlying28 hi0 hz0 hz1 _ _ _ _ n rfl rfl rfl rfl (by rw [hz2]; omega) (by unfold maxLen; omega) (Nat.le_refl _) ?_; intro w1 ho1 hg1)
  obtain ⟨zs,hzs⟩ : ∃ zs,(madeCells (Value.cells (.agg #[.int .i64 0,.int .i64 0,.slice none 0 0,.slice none 0 0])) (n * 4)).toList = zs := ⟨_,rfl⟩
  have ho : w1.ownsRow w.heap.size 63 4 (.slice (some ⟨w.heap.size,0,none⟩) n n) n zs := by rw [← hzs]; exact ho1
  have HZ : Hid (zs.length = n * 4) := ho.1
  have HB : Hid (Below w.heap.size w w1) := (Below.refl _ _).grown hg1 (Nat.le_refl _) (fun k e => by cases e)
  have HO : Hid (RWo w w1 n zs l [] 0) := ⟨by simpa [rdCells] using ho,rfl,(fun r h => by cases h),by simp,by simp,by simp,HB.out⟩
  clear ho1 hzs hg1 ho HB
  go_loopw [4] (fun i wr => ∃ k : Nat,∃ m : List RD,k ≤ n ∧ i = .int .i64 k ∧ Hid (RWo w wr n zs l m k)) (fun i _ => n - (intOf i).toNat)
  case atStart => exact ⟨0,[],by omega,rfl,HO.out⟩
  case round =>
    obtain ⟨k,m,hk,rfl,ho⟩ := hrel
    by_cases hlt : k < n
    · obtain ⟨b,off,r,rfl,e1,g0,g1,g2,g3,hf⟩ := rngsG_at keeps_lin HI.out ho.out.bel hlt
      have hsm := HS.out r (List.mem_of_getElem? e1)
      have HE : Hid (l[k]? = some r) := e1
      have HM : Hid (r.small) := hsm
      have hr1 := hsm.1
      have hr2 := hsm.2.1
      clear e1 hsm
      have hlen : (rdCells m ++ zs.drop (k * 4)).length = n * 4 := ho.out.own.1
      have hlt2 := ho.out.own.lt w.heap.size rfl
      obtain ⟨x0,q0⟩ : ∃ x,wr.cell? ⟨w.heap.size,k * 4,none⟩ = some x := ⟨_,(ho.out.own.cellAt (k * 4) (by omega)).trans (List.getElem?_eq_getElem (by omega))⟩
      obtain ⟨x1,q1⟩ : ∃ x,wr.cell? ⟨w.heap.size,k * 4 + 1,none⟩ = some x := ⟨_,(ho.out.own.cellAt (k * 4 + 1) (by omega)).trans (List.getElem?_eq_getElem (by omega))⟩
      obtain ⟨x2,q2⟩ : ∃ x,wr.cell? ⟨w.heap.size,k * 4 + 2,none⟩ = some x := ⟨_,(ho.out.own.cellAt (k * 4 + 2) (by omega)).trans (List.getElem?_eq_getElem (by omega))⟩
      obtain ⟨x3,q3⟩ : ∃ x,wr.cell? ⟨w.heap.size,k * 4 + 3,none⟩ = some x := ⟨_,(ho.out.own.cellAt (k * 4 + 3) (by omega)).trans (List.getElem?_eq_getElem (by omega))⟩
      have p0 := ho.out.own.frozenAt (k * 4)
      have p1 := ho.out.own.frozenAt (k * 4 + 1)
      have p2 := ho.out.own.frozenAt (k * 4 + 2)
      have p3 := ho.out.own.frozenAt (k * 4 + 3)
      clear hlen
      go_wp2_with fail
      refine (law_toRing r.cap r.first r.ra r.rl r.rc r.ca r.cl r.cc r.recs r.curs _ hf.out.strs hf.out.curs hr1 hr2).mono ?_
      rintro e w2 ⟨A,C,rfl,hor,hb2⟩
      have d0 := (hb2.cell (p := ⟨w.heap.size,k * 4,none⟩) hlt2.2).trans q0
      have d1 := (hb2.cell (p := ⟨w.heap.size,k * 4 + 1,none⟩) hlt2.2).trans q1
      have d2 := (hb2.cell (p := ⟨w.heap.size,k * 4 + 2,none⟩) hlt2.2).trans q2
      have d3 := (hb2.cell (p := ⟨w.heap.size,k * 4 + 3,none⟩) hlt2.2).trans q3
      have f0 := (hb2.frozen (p := ⟨w.heap.size,k * 4,none⟩) hlt2.2).trans p0
      have f1 := (hb2.frozen (p := ⟨w.heap.size,k * 4 + 1,none⟩) hlt2.2).trans p1
      have f2 := (hb2.frozen (p := ⟨w.heap.size,k * 4 + 2,none⟩) hlt2.2).trans p2
      have f3 := (hb2.frozen (p := ⟨w.heap.size,k * 4 + 3,none⟩) hlt2.2).trans p3
      have HN : Hid (RWo w (set4 w2 w.heap.size (k * 4) (.int .i64 r.cap) (.int .i64 r.first) (.slice (some ⟨A,0,none⟩) r.rl r.rl) (.slice (some ⟨C,0,none⟩) r.cl r.cl)) n zs l (m ++ [⟨r.cap,r.first,some ⟨A,0,none⟩,r.rl,r.rl,some ⟨C,0,none⟩,r.cl,r.cl,r.recs,r.curs⟩]) (k + 1)) :=
        ho.out.step HZ.out hlt HE.out (r' := ⟨r.cap,r.first,some ⟨A,0,none⟩,r.rl,r.rl,some ⟨C,0,none⟩,r.cl,r.cl,r.recs,r.curs⟩) rfl rfl hb2 hor
      clear hor hb2 q0 q1 q2 q3 p0 p1 p2 p3
      go_wp2
      exact ⟨⟨k + 1,_,by omega,by go_num,HN.out⟩,by simp [intOf]; omega⟩
    · obtain rfl : k = n := by omega
      have H1 : Hid (wr.ownsRow w.heap.size 63 4 (.slice (some ⟨w.heap.size,0,none⟩) k k) k (rdCells m)) := by
        have h := ho.out.own
        rw [List.drop_of_length_le (by rw [HZ.out]; omega),List.append_nil] at h
        exact h
      have H3 : Hid (m.map RD.sz = l.map RD.sz) := by
        have h := ho.out.sz
        rw [List.take_of_length_le (by rw [HL.out]; omega)] at h
        exact h
      have H2 : Hid (m.map RD.strip = l.map RD.strip) := by
        have h := ho.out.same
        rw [List.take_of_length_le (by rw [HL.out]; omega)] at h
        exact h
      go_wp2
      go_ret
      exact ⟨m,rfl,H1.out,ho.out.ow,ho.out.nd,H3.out,H2.out,ho.out.bel⟩
structure TWo (w wr : World) (n : Nat) (zs : List Value) (l m : List TD) (k : Nat) : Prop where
  own : wr.ownsRow w.heap.size 59 6 (.slice (some ⟨w.heap.size,0,none⟩) n n) n (tdCells m ++ zs.drop (k * 6))
  len : m.length = k
  ow : ∀ r ∈ m,r.own wr (w.heap.size + 1)
  nd : (m.flatMap TD.blks).Nodup
  sz : m.map TD.sz = (l.take k).map TD.sz
  same : m.map TD.strip = (l.take k).map TD.strip
  bel : Below w.heap.size w wr
theorem TWo.step {w wr w2 : World} {n : Nat} {zs : List Value} {l m : List TD} {k : Nat} (h : TWo w wr n zs l m k) (hz : zs.length = n * 6) (hk : k < n) {r r' : TD} (hl : l[k]? = some r) (hs : r'.strip = r.strip) (hsz : r'.sz = r.sz) (hb : Below wr.heap.size wr w2) (hf : r'.own w2 wr.heap.size) :
    TWo w (setB6 w2 w.heap.size (k * 6) (.int .i64 r'.p) (.int .i64 r'.e) (.int .i64 r'.s) (.int .i64 r'.u) (.slice r'.ra r'.rl r'.rc) (.slice r'.la r'.ll r'.lc)) n zs l (m ++ [r']) (k + 1) := by
  have hg := grown_setB6 w2 w.heap.size (k * 6) (.int .i64 r'.p) (.int .i64 r'.e) (.int .i64 r'.s) (.int .i64 r'.u) (.slice r'.ra r'.rl r'.rc) (.slice r'.la r'.ll r'.lc)
  have h2 : w2.ownsRow w.heap.size 59 6 (.slice (some ⟨w.heap.size,0,none⟩) n n) n (tdCells m ++ zs.drop (k * 6)) := h.own.kept (below_grown hb) (.inr (by simp [Value.ownBlock]))
  have hwl : w.heap.size + 1 ≤ wr.heap.size := (h.own.lt w.heap.size rfl).2
  obtain ⟨hj,e⟩ := List.getElem?_eq_some_iff.1 hl
  refine ⟨?_,by simp [h.len],fun x hx => ?_,?_,?_,?_,?_⟩
  · have h3 := own_setB6 h2 k (.int .i64 r'.p) (.int .i64 r'.e) (.int .i64 r'.s) (.int .i64 r'.u) (.slice r'.ra r'.rl r'.rc) (.slice r'.la r'.ll r'.lc)
    rw [app_set6 _ _ _ (by rw [tdCells_length,h.len]) (by omega)] at h3
    rw [show tdCells (m ++ [r']) = tdCells m ++ [.int .i64 r'.p,.int .i64 r'.e,.int .i64 r'.s,.int .i64 r'.u,.slice r'.ra r'.rl r'.rc,.slice r'.la r'.ll r'.lc] by simp [tdCells,TD.cells]]
    exact h3
  · rcases List.mem_append.1 hx with hx | hx
    · exact ((h.ow x hx).keep (tbelow_grown hb) (fun _ _ e => by cases e)).keep hg fun X hX e => by
        have := ((h.ow x hx).lt hX).1
        simp at e
        omega
    · rw [List.mem_singleton.1 hx]
      exact (hf.keep hg fun X hX e => by
        have := (hf.lt hX).1
        simp at e
        omega).mono hwl
  · rw [List.flatMap_append]
    refine nodup_two h.nd (by simpa using hf.nd) fun x hx y hy e => ?_
    obtain ⟨q,hq,hx⟩ := List.mem_flatMap.1 hx
    have h1 := ((h.ow q hq).lt hx).2
    have h2 := (hf.lt (by simpa using hy)).1
    omega
  · rw [List.take_succ_eq_append_getElem hj,List.map_append,List.map_append,h.sz,e]
    simp [hsz]
  · rw [List.take_succ_eq_append_getElem hj,List.map_append,List.map_append,h.same,e]
    simp [hs]
  · exact (below_tr h.bel hb).grown hg (below_tr h.bel hb).size (fun j e => by cases e; exact Nat.le_refl _)
set_option maxHeartbeats 2000000 in
theorem law_toTxnsO (a : Option Addr) (n c : Nat) (l : List TD) (w : World) (hi : LTxs w a n l) (hn : n ≤ 1048576) (hs : ∀ r ∈ l,r.small) :
    Calls Tryz.prog 41 #[.slice a n c] w fun e w' => ∃ m : List TD,e = .returned (.slice (some ⟨w.heap.size,0,none⟩) n n) ∧ Hid (w'.ownsRow w.heap.size 59 6 (.slice (some ⟨w.heap.size,0,none⟩) n n) n (tdCells m)) ∧ Hid (∀ r ∈ m,r.own w' (w.heap.size + 1)) ∧ Hid ((m.flatMap TD.blks).Nodup) ∧ Hid (m.map TD.sz = l.map TD.sz) ∧ Hid (m.map TD.strip = l.map TD.strip) ∧ Below w.heap.size w w' := by
  obtain ⟨i0,hi0,hz0,hz1,hz2⟩ := info_parts info_txnF
  have HI : Hid (LTxs w a n l) := hi
  have HL : Hid (l.length = n) := hi.1
  have HS : Hid (∀ r ∈ l,r.small) := hs
  clear hi hs
  go_enter Tryz.func41,Tryz.ntmps41
  go_wp2_with (at_make; refine wpList_make_full _ rfl _ _ 29 rfl w.heap.size 59 i0 _ 6 Tryz.underlying29 hi0 hz0 hz1 _ _ _ _ n rfl rfl rfl rfl (by rw [hz2]; omega) (by unfold maxLen; omega) (Nat.le_refl _) ?_; intro w1 ho1 hg1)
  obtain ⟨zs,hzs⟩ : ∃ zs,(madeCells (Value.cells (.agg #[.int .i64 0,.int .i64 0,.int .i64 0,.int .i64 0,.slice none 0 0,.slice none 0 0])) (n * 6)).toList = zs := ⟨_,rfl⟩
  have ho : w1.ownsRow w.heap.size 59 6 (.slice (some ⟨w.heap.size,0,none⟩) n n) n zs := by rw [← hzs]; exact ho1
  have HZ : Hid (zs.length = n * 6) := ho.1
  have HB : Hid (Below w.heap.size w w1) := (Below.refl _ _).grown hg1 (Nat.le_refl _) (fun k e => by cases e)
  have HO : Hid (TWo w w1 n zs l [] 0) := ⟨by simpa [tdCells] using ho,rfl,(fun r h => by cases h),by simp,by simp,by simp,HB.out⟩
  clear ho1 hzs hg1 ho HB
  go_loopw [4] (fun i wr => ∃ k : Nat,∃ m : List TD,k ≤ n ∧ i = .int .i64 k ∧ Hid (TWo w wr n zs l m k)) (fun i _ => n - (intOf i).toNat)
  case atStart => exact ⟨0,[],by omega,rfl,HO.out⟩
  case round =>
    obtain ⟨k,m,hk,rfl,ho⟩ := hrel
    by_cases hlt : k < n
    · obtain ⟨b,off,r,rfl,e1,g0,g1,g2,g3,g4,g5,hf⟩ := txsG_at keeps_tlin HI.out ho.out.bel hlt
      have hsm := HS.out r (List.mem_of_getElem? e1)
      have HE : Hid (l[k]? = some r) := e1
      have hr1 := hsm.1
      have hr2 := hsm.2
      clear e1 hsm
      have hlen : (tdCells m ++ zs.drop (k * 6)).length = n * 6 := ho.out.own.1
      have hlt2 := ho.out.own.lt w.heap.size rfl
      obtain ⟨x0,q0⟩ : ∃ x,wr.cell? ⟨w.heap.size,k * 6,none⟩ = some x := ⟨_,(ho.out.own.cellAt (k * 6) (by omega)).trans (List.getElem?_eq_getElem (by omega))⟩
      obtain ⟨x1,q1⟩ : ∃ x,wr.cell? ⟨w.heap.size,k * 6 + 1,none⟩ = some x := ⟨_,(ho.out.own.cellAt (k * 6 + 1) (by omega)).trans (List.getElem?_eq_getElem (by omega))⟩
      obtain ⟨x2,q2⟩ : ∃ x,wr.cell? ⟨w.heap.size,k * 6 + 2,none⟩ = some x := ⟨_,(ho.out.own.cellAt (k * 6 + 2) (by omega)).trans (List.getElem?_eq_getElem (by omega))⟩
      obtain ⟨x3,q3⟩ : ∃ x,wr.cell? ⟨w.heap.size,k * 6 + 3,none⟩ = some x := ⟨_,(ho.out.own.cellAt (k * 6 + 3) (by omega)).trans (List.getElem?_eq_getElem (by omega))⟩
      obtain ⟨x4,q4⟩ : ∃ x,wr.cell? ⟨w.heap.size,k * 6 + 4,none⟩ = some x := ⟨_,(ho.out.own.cellAt (k * 6 + 4) (by omega)).trans (List.getElem?_eq_getElem (by omega))⟩
      obtain ⟨x5,q5⟩ : ∃ x,wr.cell? ⟨w.heap.size,k * 6 + 5,none⟩ = some x := ⟨_,(ho.out.own.cellAt (k * 6 + 5) (by omega)).trans (List.getElem?_eq_getElem (by omega))⟩
      have p0 := ho.out.own.frozenAt (k * 6)
      have p1 := ho.out.own.frozenAt (k * 6 + 1)
      have p2 := ho.out.own.frozenAt (k * 6 + 2)
      have p3 := ho.out.own.frozenAt (k * 6 + 3)
      have p4 := ho.out.own.frozenAt (k * 6 + 4)
      have p5 := ho.out.own.frozenAt (k * 6 + 5)
      clear hlen
      go_wp2_with fail
      refine (law_toTxn r.rs r.ls _ hf.out.l.rs hf.out.l.ls hr1 hr2).mono ?_
      rintro e w2 ⟨A,C,rfl,hor,hb2⟩
      have d0 := (hb2.cell (p := ⟨w.heap.size,k * 6,none⟩) hlt2.2).trans q0
      have d1 := (hb2.cell (p := ⟨w.heap.size,k * 6 + 1,none⟩) hlt2.2).trans q1
      have d2 := (hb2.cell (p := ⟨w.heap.size,k * 6 + 2,none⟩) hlt2.2).trans q2
      have d3 := (hb2.cell (p := ⟨w.heap.size,k * 6 + 3,none⟩) hlt2.2).trans q3
      have d4 := (hb2.cell (p := ⟨w.heap.size,k * 6 + 4,none⟩) hlt2.2).trans q4
      have d5 := (hb2.cell (p := ⟨w.heap.size,k * 6 + 5,none⟩) hlt2.2).trans q5
      have f0 := (hb2.frozen (p := ⟨w.heap.size,k * 6,none⟩) hlt2.2).trans p0
      have f1 := (hb2.frozen (p := ⟨w.heap.size,k * 6 + 1,none⟩) hlt2.2).trans p1
      have f2 := (hb2.frozen (p := ⟨w.heap.size,k * 6 + 2,none⟩) hlt2.2).trans p2
      have f3 := (hb2.frozen (p := ⟨w.heap.size,k * 6 + 3,none⟩) hlt2.2).trans p3
      have f4 := (hb2.frozen (p := ⟨w.heap.size,k * 6 + 4,none⟩) hlt2.2).trans p4
      have f5 := (hb2.frozen (p := ⟨w.heap.size,k * 6 + 5,none⟩) hlt2.2).trans p5
      have HN : Hid (TWo w (setB6 w2 w.heap.size (k * 6) (.int .i64 r.p) (.int .i64 r.e) (.int .i64 r.s) (.int .i64 r.u) (.slice (some ⟨A,0,none⟩) r.rl r.rl) (.slice (some ⟨C,0,none⟩) r.ll r.ll)) n zs l (m ++ [⟨r.p,r.e,r.s,r.u,some ⟨A,0,none⟩,r.rl,r.rl,some ⟨C,0,none⟩,r.ll,r.ll,r.rs,r.ls⟩]) (k + 1)) :=
        ho.out.step HZ.out hlt HE.out (r' := ⟨r.p,r.e,r.s,r.u,some ⟨A,0,none⟩,r.rl,r.rl,some ⟨C,0,none⟩,r.ll,r.ll,r.rs,r.ls⟩) rfl rfl hb2 hor
      clear hor hb2 q0 q1 q2 q3 q4 q5 p0 p1 p2 p3 p4 p5
      go_wp2
      exact ⟨⟨k + 1,_,by omega,by go_num,HN.out⟩,by simp [intOf]; omega⟩
    · obtain rfl : k = n := by omega
      have H1 : Hid (wr.ownsRow w.heap.size 59 6 (.slice (some ⟨w.heap.size,0,none⟩) k k) k (tdCells m)) := by
        have h := ho.out.own
        rw [List.drop_of_length_le (by rw [HZ.out]; omega),List.append_nil] at h
        exact h
      have H3 : Hid (m.map TD.sz = l.map TD.sz) := by
        have h := ho.out.sz
        rw [List.take_of_length_le (by rw [HL.out]; omega)] at h
        exact h
      have H2 : Hid (m.map TD.strip = l.map TD.strip) := by
        have h := ho.out.same
        rw [List.take_of_length_le (by rw [HL.out]; omega)] at h
        exact h
      go_wp2
      go_ret
      exact ⟨m,rfl,H1.out,ho.out.ow,ho.out.nd,H3.out,H2.out,ho.out.bel⟩
theorem fab_fin {u v : World} {base A C E rl el tl : Nat} {ra ea ta : Option Addr} {rs m : List RD} {es : List Int} {ts mt : List TD} (h : OwnFab v base (some ⟨A,0,none⟩) rl rl (some ⟨C,0,none⟩) el el (some ⟨E,0,none⟩) tl tl m es mt) (hs : FSmall rl el tl rs ts) (hl : LFIn u ra rl ea el ta tl rs es ts)
    (hm5 : m.map RD.strip = rs.map RD.strip) (ht5 : mt.map TD.strip = ts.map TD.strip) : FIn v (some ⟨A,0,none⟩) rl (some ⟨C,0,none⟩) el (some ⟨E,0,none⟩) tl m es mt := by
  obtain ⟨hrl,hel,htl,hsr,hst⟩ := hs
  refine ⟨rngs_own (Q := fun w r => r.fit w) h.r fun r hr => ?_,own_nums h.e,txs_own (Q := fun w t => TFit w t) h.t fun t ht => ?_,hrl,hel,htl⟩
  · obtain ⟨q,hq,e⟩ := strip_mem hm5 hr
    obtain ⟨i,hi,e2⟩ := List.getElem_of_mem hq
    obtain ⟨_,_,_,_,_,_,_,hlin⟩ := hl.rs.2 i hi
    rw [e2] at hlin
    have g3 := hlin.strs.1
    have g4 := hlin.curs.1
    have hsm := hsr q hq
    simp only [RD.strip,RD.mk.injEq] at e
    obtain ⟨_,_,_,_,_,_,_,_,e4,e5⟩ := e
    have g1 := (h.ri r hr).1.1
    have g2 := (h.ri r hr).2.1
    rw [List.length_map,e4] at g1
    rw [curCells_length,e5] at g2
    have k1 := hsm.1
    have k2 := hsm.2.1
    exact own_fit2 (h.ri r hr) (by rw [e4]; exact hsm.2.2) (by omega) (by omega) (own_capT (h.ri r hr).1) (own_capT (h.ri r hr).2)
  · obtain ⟨q,hq,e⟩ := strip_mem ht5 ht
    obtain ⟨i,hi,e2⟩ := List.getElem_of_mem hq
    obtain ⟨_,_,_,_,_,_,_,_,_,hlin⟩ := hl.ts.2 i hi
    rw [e2] at hlin
    have g3 := hlin.l.rs.1
    have g4 := hlin.l.ls.1
    have hsm := hst q hq
    simp only [TD.strip,TD.mk.injEq] at e
    obtain ⟨e0,_,_,_,_,_,_,_,_,_,e4,e5⟩ := e
    have g1 := (h.ti t ht).1.1
    have g2 := (h.ti t ht).2.1.1
    simp only [List.length_map,e4,e5] at g1 g2
    have k1 := hsm.1
    have k2 := hsm.2
    exact own_tfit (t := t) (h.ti t ht) (by omega) (by omega) (by rw [e0]; exact hlin.pw)
structure CR (v : World) (lo A : Nat) (n : Nat) (m : List RD) : Prop where
  own : v.ownsRow A 63 4 (.slice (some ⟨A,0,none⟩) n n) n (rdCells m)
  ow : ∀ r ∈ m,r.own v (A + 1)
  le : lo ≤ A
theorem CR.keep {u v : World} {lo A n : Nat} {m : List RD} {row : Option Nat} (h : CR u lo A n m) (hg : u.grownBy v row) (hr : ∀ X,row = some X → X < A) : CR v lo A n m :=
  ⟨own_keep h.own hg (by
    cases row with
    | none => exact .inl rfl
    | some X => exact .inr (by have := hr X rfl; simp [blk?]; omega)),fun r hm => (h.ow r hm).keep hg fun X hX e => by have := ((h.ow r hm).lt hX).1; have := hr X e; omega,h.le⟩
set_option maxHeartbeats 4000000 in
theorem law_toFabO (ra : Option Addr) (rl rc : Nat) (ea : Option Addr) (el ec : Nat) (ta : Option Addr) (tl tc : Nat) (now : Int) (rs : List RD) (es : List Int) (ts : List TD) (w : World) (hi : LFIn w ra rl ea el ta tl rs es ts) (hs : FSmall rl el tl rs ts) :
    Calls Tryz.prog 9 #[fabVal ra rl rc ea el ec ta tl tc now] w fun x w' => ∃ d : FD,x = .returned (d.val now) ∧ Hid (d.own w' w.heap.size) ∧ Hid (d.rl = rl ∧ d.el = el ∧ d.tl = tl ∧ d.rs.map RD.sz = rs.map RD.sz ∧ d.ts.map TD.sz = ts.map TD.sz) ∧ Hid (d.rs.map RD.strip = rs.map RD.strip ∧ d.es = es ∧ d.ts.map TD.strip = ts.map TD.strip) ∧ Hid (FIn w' d.ra d.rl d.ea d.el d.ta d.tl d.rs d.es d.ts) ∧ Hid ((d.ra = none → d.rl = 0 ∧ d.rc = 0) ∧ (d.ea = none → d.el = 0 ∧ d.ec = 0) ∧ (d.ta = none → d.tl = 0 ∧ d.tc = 0)) ∧ Below w.heap.size w w' := by
  have HI : Hid (LFIn w ra rl ea el ta tl rs es ts) := hi
  have HS : Hid (FSmall rl el tl rs ts) := hs
  obtain ⟨hrl,hel,htl,hsr,hst⟩ := hs
  have HSR : Hid (∀ r ∈ rs,r.small) := hsr
  have HST : Hid (∀ t ∈ ts,t.small) := hst
  clear hi hsr hst
  have H0 : Hid (CB w (((w.alloc (lfabO ra rl rc ea el ec ta tl tc now)).alloc (fabO none 0 0 none 0 0 none 0 0 0)).alloc (fabO none 0 0 none 0 0 none 0 0 0)) (lfabO ra rl rc ea el ec ta tl tc now) (fabO none 0 0 none 0 0 none 0 0 0)) := cb_new _ _
  go_enter Tryz.func9,Tryz.ntmps9
  go_wp2_with fail
  obtain ⟨W0,hW0⟩ : ∃ W0,(((w.alloc (lfabO ra rl rc ea el ec ta tl tc now)).alloc (fabO none 0 0 none 0 0 none 0 0 0)).alloc (fabO none 0 0 none 0 0 none 0 0 0)) = W0 := ⟨_,rfl⟩
  rw [hW0] at H0 ⊢
  clear hW0
  refine (law_toRingsO ra rl rc rs _ (HI.out.below H0.out.bel).rs hrl HSR.out).mono ?_
  rintro x w1 ⟨m,rfl,hm1,hm2,hm3,hm4,hm5,hb1⟩
  have hz1 := fb_lt H0.out.b2
  have H1 : Hid (CB w w1 (lfabO ra rl rc ea el ec ta tl tc now) (fabO none 0 0 none 0 0 none 0 0 0)) := H0.out.under hb1
  obtain ⟨A,hA⟩ : ∃ A,W0.heap.size = A := ⟨_,rfl⟩
  rw [hA] at hz1 hm1 hm2 ⊢
  have HR1 : Hid (CR w1 (w.heap.size + 3) A rl m) := ⟨hm1.out,hm2.out,by omega⟩
  clear hb1 hA hm1 hm2
  have c0 := fun o => fb_cell H1.out.b0 o
  have c2 := fun o => fb_cell H1.out.b2 o
  have f2 := fun o => unfrozen_of_block0 H1.out.b2 o
  have H2 : Hid (CB w (w1.setCell ⟨w.heap.size + 1 + 1,0,none⟩ (.slice (some ⟨A,0,none⟩) rl rl)) (lfabO ra rl rc ea el ec ta tl tc now) (fabO (some ⟨A,0,none⟩) rl rl none 0 0 none 0 0 0)) := H1.out.set 0 _
  have HR2 : Hid (CR (w1.setCell ⟨w.heap.size + 1 + 1,0,none⟩ (.slice (some ⟨A,0,none⟩) rl rl)) (w.heap.size + 3) A rl m) := HR1.out.keep (grown_setc _ _ _ _) (fun X e => by cases e; omega)
  clear H1 H0 HR1
  go_wp2_with fail
  obtain ⟨W2,hW2⟩ : ∃ W2,w1.setCell ⟨w.heap.size + 1 + 1,0,none⟩ (.slice (some ⟨A,0,none⟩) rl rl) = W2 := ⟨_,rfl⟩
  rw [hW2] at H2 HR2 ⊢
  clear hW2 c0 c2 f2
  refine (law_toNums ea el ec es _ (HI.out.below H2.out.bel).es hel).mono ?_
  rintro x w3 ⟨rfl,ho3,hb3⟩
  have hz3 := fb_lt H2.out.b2
  have H3 : Hid (CB w w3 (lfabO ra rl rc ea el ec ta tl tc now) (fabO (some ⟨A,0,none⟩) rl rl none 0 0 none 0 0 0)) := H2.out.under hb3
  have HR3 : Hid (CR w3 (w.heap.size + 3) A rl m) := HR2.out.keep (tbelow_grown hb3) (fun X e => by cases e)
  have HML : Hid (∀ X ∈ m.flatMap RD.blks,X < W2.heap.size) := fun X hX => by
    obtain ⟨r,hr,hX⟩ := List.mem_flatMap.1 hX
    exact ((HR2.out.ow r hr).lt hX).2
  obtain ⟨C,hC⟩ : ∃ C,W2.heap.size = C := ⟨_,rfl⟩
  rw [hC] at hz3 ho3 HML ⊢
  clear hb3 hC H2 HR2
  have c0 := fun o => fb_cell H3.out.b0 o
  have c2 := fun o => fb_cell H3.out.b2 o
  have f2 := fun o => unfrozen_of_block0 H3.out.b2 o
  have H4 : Hid (CB w (w3.setCell ⟨w.heap.size + 1 + 1,1,none⟩ (.slice (some ⟨C,0,none⟩) el el)) (lfabO ra rl rc ea el ec ta tl tc now) (fabO (some ⟨A,0,none⟩) rl rl (some ⟨C,0,none⟩) el el none 0 0 0)) := H3.out.set 1 _
  have HR4 : Hid (CR (w3.setCell ⟨w.heap.size + 1 + 1,1,none⟩ (.slice (some ⟨C,0,none⟩) el el)) (w.heap.size + 3) A rl m) := HR3.out.keep (grown_setc _ _ _ _) (fun X e => by have := HR3.out.le; cases e; omega)
  have HE4 : Hid ((w3.setCell ⟨w.heap.size + 1 + 1,1,none⟩ (.slice (some ⟨C,0,none⟩) el el)).ownsRow C 2 1 (.slice (some ⟨C,0,none⟩) el el) el (numCells es)) := own_keep ho3 (grown_setc _ _ _ _) (.inr (by simp [blk?]; omega))
  clear H3 HR3 ho3
  go_wp2_with fail
  obtain ⟨W4,hW4⟩ : ∃ W4,w3.setCell ⟨w.heap.size + 1 + 1,1,none⟩ (.slice (some ⟨C,0,none⟩) el el) = W4 := ⟨_,rfl⟩
  rw [hW4] at H4 HR4 HE4 ⊢
  clear hW4 c0 c2 f2
  refine (law_toTxnsO ta tl tc ts _ (HI.out.below H4.out.bel).ts htl HST.out).mono ?_
  rintro x w5 ⟨mt,rfl,ht1,ht2,ht3,ht4,ht5,hb5⟩
  have hz5 := fb_lt H4.out.b2
  have H5 : Hid (CB w w5 (lfabO ra rl rc ea el ec ta tl tc now) (fabO (some ⟨A,0,none⟩) rl rl (some ⟨C,0,none⟩) el el none 0 0 0)) := H4.out.under hb5
  have HR5 : Hid (CR w5 (w.heap.size + 3) A rl m) := HR4.out.keep (tbelow_grown hb5) (fun X e => by cases e)
  have HE5 : Hid (w5.ownsRow C 2 1 (.slice (some ⟨C,0,none⟩) el el) el (numCells es)) := own_below HE4.out hb5
  have hCE := (HE4.out.lt C rfl).2
  have hAE : ∀ X ∈ m.flatMap RD.blks,X < W4.heap.size := fun X hX => by
    obtain ⟨r,hr,hX⟩ := List.mem_flatMap.1 hX
    exact ((HR4.out.ow r hr).lt hX).2
  have HAE : Hid _ := hAE
  obtain ⟨E,hE⟩ : ∃ E,W4.heap.size = E := ⟨_,rfl⟩
  rw [hE] at hz5 ht1 ht2 hCE HAE ⊢
  clear hb5 hE H4 HR4 HE4 hAE
  have HF : Hid (OwnFab w5 w.heap.size (some ⟨A,0,none⟩) rl rl (some ⟨C,0,none⟩) el el (some ⟨E,0,none⟩) tl tl m es mt) := by
    have hle := HR5.out.le
    refine ⟨own_base HR5.out.own (by omega),own_base HE5.out (by omega),own_base ht1.out (by omega),fun r hr => (HR5.out.ow r hr).mono (by omega),fun t ht => (ht2.out t ht).mono (by omega),?_⟩
    have hte : ∀ X ∈ mt.flatMap TD.blks,E < X := fun X hX => by
      obtain ⟨t,ht,hX⟩ := List.mem_flatMap.1 hX
      have := ((ht2.out t ht).lt hX).1
      omega
    refine nodup_two hm3.out (nodup_two ht3.out (nodup_opt _) fun x hx y hy e => ?_) fun x hx y hy e => ?_
    · have h1 := hte x hx
      simp [blk?] at hy
      omega
    · have h1 := HAE.out x hx
      have h2 := HML.out x hx
      rcases List.mem_append.1 hy with hy | hy
      · have h3 := hte y hy
        omega
      · simp [blk?] at hy
        omega
  clear ht1 ht2 ht3 hm3 HR5 HE5 HAE HML hCE
  have c0 := fun o => fb_cell H5.out.b0 o
  have c1 := fun o => fb_cell H5.out.b1 o
  have f1 := fun o => unfrozen_of_block0 H5.out.b1 o
  have c2 := fun o => fb_cell H5.out.b2 o
  have f2 := fun o => unfrozen_of_block0 H5.out.b2 o
  go_wp2
  have k1 : w.heap.size ≤ w.heap.size + 1 := by omega
  have k2 : w.heap.size ≤ w.heap.size + 1 + 1 := by omega
  have hg2 : w5.grownBy ((w5.setCell ⟨w.heap.size + 1 + 1,2,none⟩ (.slice (some ⟨E,0,none⟩) tl tl)).setCell ⟨w.heap.size + 1 + 1,3,none⟩ (.int .i64 now)) (some (w.heap.size + 1 + 1)) := (grown_setc _ _ _ _).trans (grown_setc _ _ _ _)
  have hF2 := HF.out.box H5.out.b2 fab_ne hg2
  have hg1 := grown_set4 ((w5.setCell ⟨w.heap.size + 1 + 1,2,none⟩ (.slice (some ⟨E,0,none⟩) tl tl)).setCell ⟨w.heap.size + 1 + 1,3,none⟩ (.int .i64 now)) (w.heap.size + 1) 0 (.slice (some ⟨A,0,none⟩) rl rl) (.slice (some ⟨C,0,none⟩) el el) (.slice (some ⟨E,0,none⟩) tl tl) (.int .i64 now)
  have hF1 := hF2.box ((hg2.block _ (fb_lt H5.out.b1) (by simp)).trans H5.out.b1) fab_ne hg1
  exact bodyPost_ret (v := fabVal (some ⟨A,0,none⟩) rl rl (some ⟨C,0,none⟩) el el (some ⟨E,0,none⟩) tl tl now) (by simp [results,Tryz.results9,go_sem,c1]) rfl
    ⟨⟨some ⟨A,0,none⟩,rl,rl,some ⟨C,0,none⟩,el,el,some ⟨E,0,none⟩,tl,tl,m,es,mt⟩,rfl,hF1,⟨rfl,rfl,rfl,hm4.out,ht4.out⟩,⟨hm5.out,rfl,ht5.out⟩,fab_fin hF1 HS.out HI.out hm5.out ht5.out,⟨(fun e => by cases e),(fun e => by cases e),(fun e => by cases e)⟩,
      (((((H5.out.bel.setCell (p := ⟨w.heap.size + 1 + 1,2,none⟩) k2 _).setCell (p := ⟨w.heap.size + 1 + 1,3,none⟩) k2 _).setCell (p := ⟨w.heap.size + 1,0,none⟩) k1 _).setCell (p := ⟨w.heap.size + 1,1,none⟩) k1 _).setCell (p := ⟨w.heap.size + 1,2,none⟩) k1 _).setCell (p := ⟨w.heap.size + 1,3,none⟩) k1 _⟩
end Go.Proofs.YtahccighonddaaaGreatDoor
namespace Go.Proofs.YtahccighonddaaaGreatDoor
open Go.RowKit
set_option linter.unusedSimpArgs false
set_option linter.unusedVariables false
structure BX (u : World) (lo i : Nat) (o : Obj) (d : FD) : Prop where
  b : u.heap[i]? = some o
  own : d.own u lo
  lt : ∀ X,d.blk X → X < i
  le : lo ≤ i
theorem FD.own.lt {d : FD} {w : World} {base X : Nat} (h : d.own w base) (hX : d.blk X) : base ≤ X ∧ X < w.heap.size := FBX.own.lt h.fx hX
theorem BX.below {u v : World} {lo i : Nat} {o : Obj} {d : FD} (h : BX u lo i o d) (hb : Below u.heap.size u v) : BX v lo i o d := ⟨(hb.block _ (fb_lt h.b)).trans h.b,h.own.below hb,h.lt,h.le⟩
theorem BX.fr {u v : World} {lo i : Nat} {o : Obj} {d : FD} {S : Nat → Prop} (h : BX u lo i o d) (hf : Fr S u v) (hs : ∀ X,S X → X < lo ∨ i < X) : BX v lo i o d :=
  ⟨hf.blk h.b (fun e => by have := hs i e; have := h.le; omega),h.own.fr hf fun X hX e => by have h1 := hs X e; have h2 := (h.own.lt hX).1; have h3 := h.lt X hX; omega,h.lt,h.le⟩
theorem bx_new {u : World} {lo : Nat} {d : FD} (h : d.own u lo) (hl : lo ≤ u.heap.size) (o : Obj) : BX (u.alloc o) lo u.heap.size o d :=
  ⟨heap_alloc_new _ _,h.below (fbelow_new _ _),fun X hX => (h.lt hX).2,hl⟩
structure S1 (w u : World) (oA : Obj) (lB iB : Nat) (oB : Obj) (dB : FD) : Prop where
  a : u.heap[w.heap.size]? = some oA
  B : BX u lB iB oB dB
  o1 : w.heap.size < lB
  bel : Below w.heap.size w u
theorem S1.below {w u v : World} {oA oB : Obj} {lB iB : Nat} {dB : FD} (h : S1 w u oA lB iB oB dB) (hb : Below u.heap.size u v) : S1 w v oA lB iB oB dB :=
  ⟨(hb.block _ (fb_lt h.a)).trans h.a,h.B.below hb,h.o1,below_tr h.bel hb⟩
structure S2 (w u : World) (oA : Obj) (lB iB : Nat) (oB : Obj) (dB : FD) (lX iX : Nat) (oX : Obj) (dX : FD) : Prop where
  s : S1 w u oA lB iB oB dB
  X : BX u lX iX oX dX
  o2 : iB < lX
theorem S2.below {w u v : World} {oA oB oX : Obj} {lB iB lX iX : Nat} {dB dX : FD} (h : S2 w u oA lB iB oB dB lX iX oX dX) (hb : Below u.heap.size u v) : S2 w v oA lB iB oB dB lX iX oX dX := ⟨h.s.below hb,h.X.below hb,h.o2⟩
structure S3 (w u : World) (oA : Obj) (lB iB : Nat) (oB : Obj) (dB : FD) (lX iX : Nat) (oX : Obj) (dX : FD) (lG iG : Nat) (oG : Obj) (dG : FD) : Prop where
  s : S2 w u oA lB iB oB dB lX iX oX dX
  G : BX u lG iG oG dG
  o3 : iX < lG
theorem S3.below {w u v : World} {oA oB oX oG : Obj} {lB iB lX iX lG iG : Nat} {dB dX dG : FD} (h : S3 w u oA lB iB oB dB lX iX oX dX lG iG oG dG) (hb : Below u.heap.size u v) : S3 w v oA lB iB oB dB lX iX oX dX lG iG oG dG := ⟨h.s.below hb,h.G.below hb,h.o3⟩
structure S4 (w u : World) (oA : Obj) (lB iB : Nat) (oB : Obj) (dB : FD) (lG iG : Nat) (oG : Obj) (dG : FD) : Prop where
  s : S1 w u oA lB iB oB dB
  G : BX u lG iG oG dG
  o3 : iB < lG
theorem S4.below {w u v : World} {oA oB oG : Obj} {lB iB lG iG : Nat} {dB dG : FD} (h : S4 w u oA lB iB oB dB lG iG oG dG) (hb : Below u.heap.size u v) : S4 w v oA lB iB oB dB lG iG oG dG := ⟨h.s.below hb,h.G.below hb,h.o3⟩
theorem S3.mark {w u v : World} {oA oB oX oG : Obj} {lB iB lX iX lG iG : Nat} {dB dX dG : FD} (h : S3 w u oA lB iB oB dB lX iX oX dX lG iG oG dG) (hf : Fr dX.blk u v) : S4 w v oA lB iB oB dB lG iG oG dG := by
  have hx : ∀ X,dX.blk X → lX ≤ X ∧ X < iX := fun X hX => ⟨(h.s.X.own.lt hX).1,h.s.X.lt X hX⟩
  have h1 := h.s.s.o1
  have h2 := h.s.o2
  have h3 := h.o3
  have h4 := h.s.X.le
  have h5 := h.s.s.B.le
  exact ⟨⟨hf.blk h.s.s.a (fun e => by have := hx _ e; omega),h.s.s.B.fr hf (fun X e => by have := hx X e; omega),h1,Fr.below h.s.s.bel (Nat.le_of_lt (fb_lt h.s.s.a)) hf fun X e => by have := hx X e; omega⟩,h.G.fr hf (fun X e => by have := hx X e; omega),by omega⟩
structure S5 (w u : World) (oA : Obj) (lB iB : Nat) (oB : Obj) (dB : FD) (lG iG : Nat) (oG : Obj) (dG : FBX) : Prop where
  s : S1 w u oA lB iB oB dB
  b : u.heap[iG]? = some oG
  own : dG.own u lG
theorem S5.below {w u v : World} {oA oB oG : Obj} {lB iB lG iG : Nat} {dB : FD} {dG : FBX} (h : S5 w u oA lB iB oB dB lG iG oG dG) (hb : Below u.heap.size u v) : S5 w v oA lB iB oB dB lG iG oG dG := ⟨h.s.below hb,(hb.block _ (fb_lt h.b)).trans h.b,h.own.below hb⟩
theorem S4.mark {w u v : World} {oA oB oG : Obj} {lB iB lG iG : Nat} {dB dG : FD} {m : FBX} (h : S4 w u oA lB iB oB dB lG iG oG dG) (hf : Fr dG.blk u v) (ho : m.own v lG) : S5 w v oA lB iB oB dB lG iG oG m := by
  have hx : ∀ X,dG.blk X → lG ≤ X ∧ X < iG := fun X hX => ⟨(h.G.own.lt hX).1,h.G.lt X hX⟩
  have h1 := h.s.o1
  have h3 := h.o3
  have h5 := h.s.B.le
  exact ⟨⟨hf.blk h.s.a (fun e => by have := hx _ e; omega),h.s.B.fr hf (fun X e => by have := hx X e; omega),h1,Fr.below h.s.bel (Nat.le_of_lt (fb_lt h.s.a)) hf fun X e => by have := hx X e; omega⟩,hf.blk h.G.b (fun e => by have := hx _ e; omega),ho⟩
structure ArgD (d : FD) (rl el tl : Nat) (rs : List RD) (es : List Int) (ts : List TD) : Prop where
  rl : d.rl = rl
  el : d.el = el
  tl : d.tl = tl
  rz : d.rs.map RD.sz = rs.map RD.sz
  tz : d.ts.map TD.sz = ts.map TD.sz
  r : d.rs.map RD.strip = rs.map RD.strip
  e : d.es = es
  t : d.ts.map TD.strip = ts.map TD.strip
abbrev FD.fin (d : FD) (w : World) : Prop := FIn w d.ra d.rl d.ea d.el d.ta d.tl d.rs d.es d.ts
abbrev FD.nils (d : FD) : Prop := (d.ra = none → d.rl = 0 ∧ d.rc = 0) ∧ (d.ea = none → d.el = 0 ∧ d.ec = 0) ∧ (d.ta = none → d.tl = 0 ∧ d.tc = 0)
theorem law_eqD (d d' : FD) (now : Int) (rl el tl : Nat) (rs : List RD) (es : List Int) (ts : List TD) (u : World) (h : d.fin u) (h' : d'.fin u) (hs : ArgD d rl el tl rs es ts) (hs' : ArgD d' rl el tl rs es ts) :
    Calls Tryz.prog 12 #[d.val now,d'.val now] u fun e w' => e = .returned (.bool true) ∧ Below u.heap.size u w' := by
  obtain ⟨a1,a2,a3,_,_,a4,a5,a6⟩ := hs
  obtain ⟨b1,b2,b3,_,_,b4,b5,b6⟩ := hs'
  obtain ⟨ra,rl0,rc,ea,el0,ec,ta,tl0,tc,rs0,es0,ts0⟩ := d
  obtain ⟨ra',rl',rc',ea',el',ec',ta',tl',tc',rs',es',ts'⟩ := d'
  simp only [] at a1 a2 a3 a4 a5 a6 b1 b2 b3 b4 b5 b6
  subst a1 a2 a3 a5 b1 b2 b3 b5
  exact law_eqFabF ra _ rc ea _ ec ta _ tc ra' rc' ea' ec' ta' tc' now rs0 rs' _ ts0 ts' u h h' (a4.trans b4.symm) (a6.trans b6.symm)
theorem map_szSum {α : Type} {f : α → Nat} {l m : List α} (h : l.map f = m.map f) : szSum f l = szSum f m := by unfold szSum; rw [h]
theorem szSum_lin {α : Type} {c f : α → Nat} {l : List α} (h : ∀ x ∈ l,c x ≤ 4 + 2 * f x) : szSum c l ≤ 4 * l.length + 2 * szSum f l := by
  induction l with
  | nil => simp [szSum]
  | cons x t ih =>
    have h1 := h x (List.mem_cons_self ..)
    have h2 := ih fun y hy => h y (List.mem_cons_of_mem _ hy)
    have e : szSum c (x :: t) = c x + szSum c t := by simp [szSum]
    have e2 : szSum f (x :: t) = f x + szSum f t := by simp [szSum]
    rw [e,e2,List.length_cons]
    omega
theorem FD.own.fewX {d : FD} {w : World} {base rl el tl : Nat} {rs : List RD} {es : List Int} {ts : List TD} (h : d.own w base) (ha : ArgD d rl el tl rs es ts) (hz : fabSz rl el tl rs ts ≤ 1048576) : d.x.cnt ≤ 50000000 := by
  obtain ⟨l1,l2,l3⟩ := h.lens
  have e1 := map_szSum ha.rz
  have e2 := map_szSum ha.tz
  have k1 := ha.rl
  have k2 := ha.el
  have k3 := ha.tl
  unfold fabSz at hz
  rw [← e1,← e2] at hz
  have a1 : szSum RX.cnt (d.rs.map RD.x) ≤ 4 * d.rs.length + 2 * szSum RD.sz d.rs := by
    rw [szSum_map]
    exact szSum_lin fun r _ => by show 2 + r.rl + r.cl * 2 ≤ 4 + 2 * (r.rl + strSum r.recs + r.cl); omega
  have a2 : szSum TXN.cnt (d.ts.map TD.x) ≤ 4 * d.ts.length + 2 * szSum TD.sz d.ts := by
    rw [szSum_map]
    exact szSum_lin fun t _ => by show 4 + t.rl + t.ll ≤ 4 + 2 * (t.rl + t.ll); omega
  show szSum RX.cnt (d.rs.map RD.x) + d.el + szSum TXN.cnt (d.ts.map TD.x) ≤ _
  omega
abbrev FD.valB (d : FD) (now : Int) : Obj := fabO d.ra d.rl d.rc d.ea d.el d.ec d.ta d.tl d.tc now
theorem law_markFabD (d : FD) (now : Int) (base : Nat) (w : World) (h : d.own w base) (hm : d.x.cnt ≤ 50000000) :
    Calls Tryz.prog 13 #[d.val now,.int .i64 1] w fun e w' => e = .returned (.int .i64 ((1 + d.x.cnt : Nat) : Int)) ∧ Fr d.blk w w' :=
  (law_markFabX d.x now base 1 w h.fx (by omega) (by omega)).mono fun _ _ h => ⟨h.1,h.2.2⟩
def FT.strip (T : FT) : FT := ⟨T.rs.map RD.strip,T.es,T.ts.map TD.strip,T.now,T.n,T.c⟩
theorem AnsT.like {w w' : World} {T T' : FT} {x : Ending} (h : AnsT w w' T' x) (e : T'.strip = T.strip) : AnsT w w' T x := by
  obtain ⟨d,hx,ho,h1,h2,h3⟩ := h
  simp only [FT.strip,FT.mk.injEq] at e
  obtain ⟨e1,e2,e3,e4,e5,e6⟩ := e
  exact ⟨d,by rw [← e4,← e5,← e6]; exact hx,ho,h1.trans e1,h2.trans e2,h3.trans e3⟩
end Go.Proofs.YtahccighonddaaaGreatDoor
namespace Go.Proofs.YtahccighonddaaaGreatDoor
open Go.RowKit Go.Maps
attribute [local go_sem ↓] Go.wp_at_zero Go.wp_at_succ
set_option linter.unusedSimpArgs false
set_option linter.unusedVariables false
variable {aN aF aR aS aM aL : Addr}
end Go.Proofs.YtahccighonddaaaGreatDoor
namespace Go.Proofs.YtahccighonddaaaGreatDoor
open Go.RowKit Go.Maps
attribute [local go_sem ↓] Go.wp_at_zero Go.wp_at_succ
set_option linter.unusedSimpArgs false
set_option linter.unusedVariables false
variable {aN aF aR aS aM aL : Addr}
theorem right_fin {rs : List RD} {es : List Int} {ts : List TD} {now : Int} (hR : fabRightB rs es ts now = true) : ∀ r ∈ rs,0 ≤ r.first ∧ r.first ≤ 1000000 := fun r hr => by
  obtain ⟨i,hi,e⟩ := List.getElem_of_mem hr
  exact (right_first (fit_right (right_ring hR (k := i) (r := r) (by rw [List.getElem?_eq_getElem hi,e])))).1
end Go.Proofs.YtahccighonddaaaGreatDoor
namespace Go.Proofs.YtahccighonddaaaGreatDoor
open Go.RowKit Go.Maps
def RO.rd (a : RO) : RD := ⟨a.cap,a.first,none,0,0,none,0,0,a.recs,a.curs⟩
abbrev rOutO (A : RO) (a : Option Addr) (q : Nat) (b : Option Addr) (p : Nat) : Obj := .cells #[.int .i64 A.cap,.int .i64 A.first,.slice a A.recs.length q,.slice b A.curs.length p,.int .i64 A.k,.int .i64 A.t,.string A.d,.int .i64 A.c] 67 (0,0)
abbrev rOutV (A : RO) (a : Option Addr) (q : Nat) (b : Option Addr) (p : Nat) : Value := ringOutV A.cap A.first a A.recs.length q b A.curs.length p A.k A.t A.d A.c
def grpR (A : RD → RO) (rs : List RD) (es : List Int) (ts : List TD) (now g : Int) : Except Int FV :=
  if 0 ≤ g ∧ g < (rs.length : Int) then (match rs[g.toNat]? with | none => .error 8 | some r => if (A r).c = 0 then .ok ⟨rs.set g.toNat (A r).rd,es,ts,now,0⟩ else .error (A r).c) else .error 8
structure RGood (r : RD) (a : RO) : Prop where
  e : a.first + (a.recs.length : Int) = r.first + (r.recs.length : Int)
  f : 0 ≤ a.first ∧ a.first ≤ 1000000
  s : ∀ s ∈ a.recs,s ∈ r.recs
  n : a.recs.length ≤ r.recs.length
  m : a.curs.length ≤ 5
theorem trim_good {r : RD} {cs : List (Int × Int)} (h : ringRightB r.cap r.first r.recs r.curs = true) (hc : ∀ c ∈ cs,r.first ≤ c.2 ∧ c.2 ≤ r.first + (r.recs.length : Int)) (hl : cs.length ≤ 5) : RGood r (trimR r.cap r.first r.recs cs) := by
  have h1 := right_first h
  have h2 := curLeast_in r.first (r.first + (r.recs.length : Int)) cs (by omega) hc
  refine ⟨?_,⟨?_,?_⟩,fun s hs => List.mem_of_mem_drop hs,?_,hl⟩
  · show curLeast r.first cs + ((r.recs.drop _).length : Int) = _
    rw [List.length_drop]
    omega
  · show 0 ≤ curLeast r.first cs
    omega
  · show curLeast r.first cs ≤ 1000000
    omega
  · show (r.recs.drop _).length ≤ _
    rw [List.length_drop]
    omega
theorem endSum_setG {rs : List RD} {g : Nat} {r r' : RD} (hg : rs[g]? = some r) (hr : r'.first + (r'.rl : Int) = r.first + (r.rl : Int)) : endSum (rs.set g r') = endSum rs := by
  obtain ⟨hl,e⟩ := List.getElem?_eq_some_iff.1 hg
  unfold endSum
  rw [List.map_set]
  have hx : (rs.map fun r => r.first + (r.rl : Int))[g]? = some (r'.first + (r'.rl : Int)) := by rw [List.getElem?_map,hg,Option.map_some,hr]
  obtain ⟨hl2,e2⟩ := List.getElem?_eq_some_iff.1 hx
  rw [← e2,List.set_getElem_self]
theorem grp_same {A : RD → RO} (hA : ∀ r r',r'.strip = r.strip → A r' = A r) {rs rs' : List RD} {ts ts' : List TD} (es : List Int) (now g : Int) (hr : rs'.map RD.strip = rs.map RD.strip) (ht : ts'.map TD.strip = ts.map TD.strip) :
    (∃ c,grpR A rs es ts now g = .error c ∧ grpR A rs' es ts' now g = .error c) ∨ ∃ F F',grpR A rs es ts now g = .ok F ∧ grpR A rs' es ts' now g = .ok F' ∧ F'.rs.map RD.strip = F.rs.map RD.strip ∧ F'.es = F.es ∧ F'.ts.map TD.strip = F.ts.map TD.strip ∧ F'.now = F.now ∧ F'.n = F.n := by
  have hl : rs'.length = rs.length := by have := congrArg List.length hr; simpa using this
  unfold grpR
  by_cases hg : 0 ≤ g ∧ g < (rs.length : Int)
  case neg => rw [if_neg hg,if_neg (by rw [hl]; exact hg)]; exact .inl ⟨_,rfl,rfl⟩
  rw [if_pos hg,if_pos (by rw [hl]; exact hg)]
  have e1 : (rs'.map RD.strip)[g.toNat]? = (rs.map RD.strip)[g.toNat]? := by rw [hr]
  rw [List.getElem?_map,List.getElem?_map] at e1
  cases h1 : rs[g.toNat]? with
  | none =>
    rw [h1] at e1
    have h2 : rs'[g.toNat]? = none := by cases h2 : rs'[g.toNat]? with | none => rfl | some x => rw [h2] at e1; cases e1
    simp only [h2]
    exact .inl ⟨_,rfl,rfl⟩
  | some r =>
    rw [h1] at e1
    cases h2 : rs'[g.toNat]? with
    | none => rw [h2] at e1; cases e1
    | some r' =>
      rw [h2] at e1
      simp only [Option.map_some,Option.some.injEq] at e1
      simp only
      rw [hA r r' e1]
      by_cases hc : (A r).c = 0
      · rw [if_pos hc,if_pos hc]
        refine .inr ⟨_,_,rfl,rfl,?_,rfl,ht,rfl,rfl⟩
        show (rs'.set _ _).map _ = (rs.set _ _).map _
        rw [List.map_set,List.map_set,hr]
      · rw [if_neg hc,if_neg hc]; exact .inl ⟨_,rfl,rfl⟩
theorem grp_small {A : RD → RO} (hG : ∀ r,(A r).c = 0 → RGood r (A r)) {rs : List RD} {es : List Int} {ts : List TD} {now g : Int} {F : FV} (hF : grpR A rs es ts now g = .ok F) :
    F.rs.length = rs.length ∧ F.es = es ∧ F.ts = ts ∧ ∀ q ∈ F.rs,q ∈ rs ∨ ∃ r ∈ rs,RGood r (A r) ∧ q = (A r).rd := by
  unfold grpR at hF
  by_cases hg : 0 ≤ g ∧ g < (rs.length : Int)
  case neg => rw [if_neg hg] at hF; cases hF
  rw [if_pos hg] at hF
  cases h1 : rs[g.toNat]? with
  | none => rw [h1] at hF; cases hF
  | some r =>
    rw [h1] at hF
    simp only at hF
    split at hF
    · rename_i hc
      cases hF
      refine ⟨List.length_set,rfl,rfl,fun q hq => ?_⟩
      rcases List.mem_or_eq_of_mem_set hq with hq | rfl
      · exact .inl hq
      · exact .inr ⟨r,List.mem_of_getElem? h1,hG r hc,rfl⟩
    · cases hF
end Go.Proofs.YtahccighonddaaaGreatDoor
namespace Go.Proofs.YtahccighonddaaaGreatDoor
open Go.RowKit
attribute [local go_sem ↓] Go.wp_at_zero Go.wp_at_succ
set_option linter.unusedSimpArgs false
set_option linter.unusedVariables false
def hearC0 (r : RD) (g : Int) : Int := (r.curs.getD (findK g r.curs) (0,0)).2
def hearP (ts : List TD) (loose : Bool) (s : ByteArray) : Bool := if loose then (readRes s).1 == 1 else dataOf ts 2 s
def hearTill (ts : List TD) (r : RD) (loose : Bool) : Int := if loose then r.first + (r.recs.length : Int) else stableR ts r
def hearRecs (ts : List TD) (r : RD) (g : Int) (loose : Bool) : List ByteArray := (r.recs.drop (hearC0 r g - r.first).toNat).take (hearTill ts r loose - hearC0 r g).toNat
def hearG (ts : List TD) (r : RD) (g : Int) (m : Nat) (loose : Bool) : Nat × List ByteArray := gath (hearP ts loose) (hearRecs ts r g loose) m 0 []
def hearM (ts : List TD) (r : RD) (g : Int) (m : Nat) (loose : Bool) : RO := moveR r.cap r.first r.recs r.curs g (hearC0 r g + ((hearG ts r g m loose).1 : Int))
theorem hear_at {r : RD} {g : Int} (hR : ringRightB r.cap r.first r.recs r.curs = true) (hB : findB g r.curs = true) : r.first ≤ hearC0 r g ∧ hearC0 r g ≤ r.first + (r.recs.length : Int) := by
  have hlt := find_lt hB
  have h1 := (right_curs hR).1 _ (List.getElem_mem hlt)
  unfold hearC0
  rw [List.getD_eq_getElem?_getD,List.getElem?_eq_getElem hlt]
  exact h1
theorem hear_till {ts : List TD} {r : RD} {loose : Bool} : r.first ≤ hearTill ts r loose ∧ hearTill ts r loose ≤ r.first + (r.recs.length : Int) := by
  unfold hearTill stableR
  have h := List.findIdx_le_length (p := dataOf ts 1) (xs := r.recs)
  cases loose
  · simp only [Bool.false_eq_true,if_false]; omega
  · simp only [if_true]; omega
theorem hear_len {ts : List TD} {r : RD} {g : Int} {loose : Bool} (hR : ringRightB r.cap r.first r.recs r.curs = true) (hB : findB g r.curs = true) : hearTill ts r loose - hearC0 r g = ((hearRecs ts r g loose).length : Int) ∨ (hearTill ts r loose - hearC0 r g ≤ 0 ∧ hearRecs ts r g loose = []) := by
  have h1 := hear_at hR hB
  have h2 := hear_till (ts := ts) (r := r) (loose := loose)
  by_cases h : 0 < hearTill ts r loose - hearC0 r g
  · refine .inl ?_
    unfold hearRecs
    rw [List.length_take,List.length_drop]
    omega
  · refine .inr ⟨by omega,?_⟩
    unfold hearRecs
    rw [show (hearTill ts r loose - hearC0 r g).toNat = 0 by omega]
    rfl
theorem hear_get {ts : List TD} {r : RD} {g : Int} {loose : Bool} {j : Nat} (hj : j < (hearRecs ts r g loose).length) : ∃ h : (hearC0 r g - r.first).toNat + j < r.recs.length,(hearRecs ts r g loose)[j] = r.recs[(hearC0 r g - r.first).toNat + j] := by
  unfold hearRecs at hj ⊢
  have h2 : (hearC0 r g - r.first).toNat + j < r.recs.length := by
    rw [List.length_take,List.length_drop] at hj
    omega
  refine ⟨h2,?_⟩
  rw [List.getElem_take,List.getElem_drop]
variable {ta : Option Addr} {tl tc : Nat}
theorem callCounts (args : Array Value) (w : World) : (callFunc 172 args).run Tryz.prog w = .ok (.enter 172 args) w := by
  simp [go_sem,Tryz.func172]
theorem callStands (args : Array Value) (w : World) : (callFunc 174 args).run Tryz.prog w = .ok (.enter 174 args) w := by
  simp [go_sem,Tryz.func174]
end Go.Proofs.YtahccighonddaaaGreatDoor
namespace Go.Proofs.YtahccighonddaaaGreatDoor
open Go.RowKit Go.Maps
attribute [local go_sem ↓] Go.wp_at_zero Go.wp_at_succ
set_option linter.unusedSimpArgs false
set_option linter.unusedVariables false
set_option maxRecDepth 100000 in
set_option maxHeartbeats 2000000 in
theorem spec_gcode (ra : Option Addr) (rl rc : Nat) (ea : Option Addr) (el ec : Nat) (ta : Option Addr) (tl tc : Nat) (now g : Int) (rs : List RD) (es : List Int) (ts : List TD) (w : World) (hi : FIn w ra rl ea el ta tl rs es ts) :
    Calls Tryz.prog 54 #[fabVal ra rl rc ea el ec ta tl tc now,.int .i64 g] w fun x w' => x = .returned (.int .i64 (if fabRightB rs es ts now then (if 0 ≤ g ∧ g < (rs.length : Int) then 0 else 8) else 1)) ∧ Below w.heap.size w w' := by
  have HI : Hid (FIn w ra rl ea el ta tl rs es ts) := hi
  have hrl := hi.rle
  have hln := hi.rs.1
  clear hi
  have H0 : Hid (FB w (w.alloc (fabO ra rl rc ea el ec ta tl tc now)) (fabO ra rl rc ea el ec ta tl tc now)) := fb_new _ _ _
  obtain ⟨T,hT⟩ : ∃ T : Int,(if fabRightB rs es ts now then (if 0 ≤ g ∧ g < (rs.length : Int) then (0 : Int) else 8) else 1) = T := ⟨_,rfl⟩
  have HT : Hid ((if fabRightB rs es ts now then (if 0 ≤ g ∧ g < (rs.length : Int) then (0 : Int) else 8) else 1) = T) := hT
  rw [hT]
  clear hT
  go_enter Tryz.func54,Tryz.ntmps54
  go_wp2_with fail
  refine (spec_fabricRight ra rl rc ea el ec ta tl tc now rs es ts _ (HI.out.below H0.out.bel)).mono ?_
  rintro x v1 ⟨rfl,hb1⟩
  have H1 : Hid (FB w v1 (fabO ra rl rc ea el ec ta tl tc now)) := H0.out.under hb1
  clear hb1 H0
  have c0 := fun o => fb_cell H1.out.box o
  cases hR : fabRightB rs es ts now with
  | false =>
    have HTI : Hid (T = 1) := show _ = _ by rw [← HT.out,hR]; rfl
    go_wp2
    go_ret
    exact ⟨ret_int HTI.out.symm,H1.out.bel⟩
  | true =>
  go_wp2_with fail
  refine (spec_there ra rl rc ea el ec ta tl tc now g _ hrl).mono ?_
  rintro x v2 ⟨rfl,hb2⟩
  have H2 : Hid (FB w v2 (fabO ra rl rc ea el ec ta tl tc now)) := H1.out.under hb2
  clear hb2 H1 c0
  by_cases hg : 0 ≤ g ∧ g < (rs.length : Int)
  case pos =>
    have hd : decide (0 ≤ g ∧ g ≤ (rl : Int) - 1) = true := decide_eq_true (by omega)
    have HTI : Hid (T = 0) := show _ = _ by rw [← HT.out,hR,if_pos rfl,if_pos hg]
    rw [hd]
    clear hg hd
    go_wp2
    go_ret
    exact ⟨ret_int HTI.out.symm,H2.out.bel⟩
  case neg =>
    have hd : decide (0 ≤ g ∧ g ≤ (rl : Int) - 1) = false := decide_eq_false (by omega)
    have HTI : Hid (T = 8) := show _ = _ by rw [← HT.out,hR,if_pos rfl,if_neg hg]
    rw [hd]
    clear hg hd
    go_wp2
    go_ret
    exact ⟨ret_int HTI.out.symm,H2.out.bel⟩
structure G3 (w wr : World) (o0 o1 o2 : Obj) : Prop where
  b0 : wr.heap[w.heap.size]? = some o0
  b1 : wr.heap[w.heap.size + 1]? = some o1
  b2 : wr.heap[w.heap.size + 1 + 1]? = some o2
  below : Below w.heap.size w wr
theorem G3.under {w wr wx : World} {o0 o1 o2 : Obj} (h : G3 w wr o0 o1 o2) (hb : Below wr.heap.size wr wx) : G3 w wx o0 o1 o2 :=
  ⟨(hb.block _ (fb_lt h.b0)).trans h.b0,(hb.block _ (fb_lt h.b1)).trans h.b1,(hb.block _ (fb_lt h.b2)).trans h.b2,below_tr h.below hb⟩
theorem gstrip_some {α : Type} {f : α → α} {l l' : List α} (h : l'.map f = l.map f) {k : Nat} {t : α} (hk : l[k]? = some t) : ∃ t',l'[k]? = some t' := by
  have e1 : (l'.map f)[k]? = (l.map f)[k]? := by rw [h]
  rw [List.getElem?_map,List.getElem?_map,hk] at e1
  obtain ⟨t',h1,_⟩ := Option.map_eq_some_iff.1 e1
  exact ⟨t',h1⟩
end Go.Proofs.YtahccighonddaaaGreatDoor
namespace Go.Proofs.YtahccighonddaaaGreatDoor
open Go.RowKit
set_option linter.unusedSimpArgs false
set_option linter.unusedVariables false
def PreW (w : World) : Prop := utabs w ∧ ∃ aN aF aR aS aM aL,Errs aN aF aR aS aM aL w
theorem preW_below (u v : World) (hb : Below u.heap.size u v) (h : PreW u) : PreW v := by
  obtain ⟨h1,aN,aF,aR,aS,aM,aL,h2⟩ := h
  exact ⟨utabs_below h1 hb,aN,aF,aR,aS,aM,aL,h2.below hb⟩
def RSm (r : RD) : Prop := r.recs.length ≤ 1048576 ∧ r.curs.length ≤ 1048576 ∧ ∀ s ∈ r.recs,s.size ≤ 1048576
def TSm (t : TD) : Prop := t.rs.length ≤ 1048576 ∧ t.ls.length ≤ 1048576 ∧ -9223372036854775808 ≤ t.p ∧ t.p ≤ 9223372036854775807
theorem lfin_sm {w : World} {ra : Option Addr} {rl : Nat} {ea : Option Addr} {el : Nat} {ta : Option Addr} {tl : Nat} {rs : List RD} {es : List Int} {ts : List TD} (h : LFIn w ra rl ea el ta tl rs es ts) (hs : FSmall rl el tl rs ts) : (∀ r ∈ rs,RSm r) ∧ ∀ t ∈ ts,TSm t := by
  refine ⟨fun r hr => ?_,fun t ht => ?_⟩
  · obtain ⟨i,hi,e⟩ := List.getElem_of_mem hr
    obtain ⟨_,_,_,_,_,_,_,hl⟩ := h.rs.2 i hi
    rw [e] at hl
    have g1 := hl.strs.1
    have g2 := hl.curs.1
    obtain ⟨s1,s2,s3⟩ := hs.2.2.2.1 r hr
    exact ⟨by omega,by omega,s3⟩
  · obtain ⟨i,hi,e⟩ := List.getElem_of_mem ht
    obtain ⟨_,_,_,_,_,_,_,_,_,hl⟩ := h.ts.2 i hi
    rw [e] at hl
    have g1 := hl.l.rs.1
    have g2 := hl.l.ls.1
    obtain ⟨s1,s2⟩ := hs.2.2.2.2 t ht
    exact ⟨by omega,by omega,hl.pw⟩
theorem fts_ill (c : Int) : FTSm (ftIll c) := ⟨by simp [ftIll],by simp [ftIll],by simp [ftIll],(fun _ h => by cases h),(fun _ h => by cases h)⟩
theorem fts_of {right : Bool} {R : Except Int FV} (h : ∀ F,right = true → R = .ok F → F.rs.length ≤ 4 ∧ F.es.length ≤ 4 ∧ F.ts.length ≤ 12 ∧ (∀ r ∈ F.rs,RSm r) ∧ ∀ t ∈ F.ts,TSm t) : FTSm (ftOf right R) := by
  cases right with
  | false => exact fts_ill 1
  | true =>
    cases R with
    | error c => exact fts_ill c
    | ok F =>
      obtain ⟨h1,h2,h3,h4,h5⟩ := h F rfl rfl
      exact ⟨h1,h2,h3,h4,h5⟩
theorem ft_same {right : Bool} {R R' : Except Int FV} (h : right = true → (∃ c,R = .error c ∧ R' = .error c) ∨ ∃ F F',R = .ok F ∧ R' = .ok F' ∧ F'.rs.map RD.strip = F.rs.map RD.strip ∧ F'.es = F.es ∧ F'.ts.map TD.strip = F.ts.map TD.strip ∧ F'.now = F.now ∧ F'.n = F.n) : (ftOf right R').strip = (ftOf right R).strip := by
  cases right with
  | false => rfl
  | true =>
    rcases h rfl with ⟨c,rfl,rfl⟩ | ⟨F,F',rfl,rfl,h1,h2,h3,h4,h5⟩
    · rfl
    · simp only [ftOf,if_true,FT.strip,h1,h2,h3,h4,h5]
end Go.Proofs.YtahccighonddaaaGreatDoor
