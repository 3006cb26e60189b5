import Derived.Test.YtahccighonddaaaGreatDoorSpecEnd
import Derived.Test.YtahccighonddaaaGreatDoorFabEndBy
import Derived.Test.YtahccighonddaaaGreatDoorSpecPut
import Derived.Deep.LoopGhost
import Derived.WalkMore
import Derived.Test.YtahccighonddaaaGreatDoorNrm
import Derived.Test.YtahccighonddaaaGreatDoorTxnTouch2
namespace Go.Proofs.YtahccighonddaaaGreatDoor
open Go.RowKit Go.Maps
attribute [local go_sem ↓] Go.wp_at_zero Go.wp_at_succ
set_option linter.unusedSimpArgs false
set_option linter.unusedVariables false
variable {aN aF aR aS aM aL : Addr}
end Go.Proofs.YtahccighonddaaaGreatDoor
namespace Go.Proofs.YtahccighonddaaaGreatDoor
open Go.RowKit Go.Maps
attribute [local go_sem ↓] Go.wp_at_zero Go.wp_at_succ
set_option linter.unusedSimpArgs false
set_option linter.unusedVariables false
variable {aN aF aR aS aM aL : Addr}
abbrev pRecO (k t : Int) (d : ByteArray) : Obj := .cells #[.int .i64 k, .int .i64 t, .string d] 65 (0, 0)
abbrev pOutO (cap first : Int) (a : Option Addr) (n q : Nat) (b : Option Addr) (m p : Nat) : Obj := .cells #[.int .i64 cap, .int .i64 first, .slice a n q, .slice b m p, .int .i64 0, .int .i64 0, .string ⟨#[]⟩, .int .i64 0] 67 (0, 0)
theorem own_fitR {w : World} {base n q m p : Nat} {a b : Option Addr} {recs : List ByteArray} {curs : List (Int × Int)} (h : OwnRing w base a n q b m p (recs.map Value.string) (curCells curs)) (hs : ∀ s ∈ recs, s.size ≤ 1048576) (hn : n ≤ 1048576) (hm : m ≤ 1048576) : RFit w a n q b m p recs curs := by
  obtain ⟨a1, q1, e1, h1⟩ := own_strIn h.1
  obtain ⟨a2, q2, e2, h2⟩ := own_curIn h.2
  simp only [Value.slice.injEq] at e1 e2
  obtain ⟨rfl, _, rfl⟩ := e1
  obtain ⟨rfl, _, rfl⟩ := e2
  exact ⟨h1, h2, hs, hn, hm, nown_capMax h.1, nown_capMax h.2⟩
theorem out_put8 (W : World) (Y : Nat) (u0 u1 u2 u3 u4 u5 u6 u7 v0 v1 v2 v3 v4 v5 v6 v7 : Value) (t : TypeId) (h : W.heap[Y]? = some (.cells #[u0, u1, u2, u3, u4, u5, u6, u7] t (0, 0))) : (set8 W Y v0 v1 v2 v3 v4 v5 v6 v7).heap[Y]? = some (.cells #[v0, v1, v2, v3, v4, v5, v6, v7] t (0, 0)) := by
  have h0 : (W.setCell ⟨Y, 0, none⟩ v0).heap[Y]? = some (.cells #[v0, u1, u2, u3, u4, u5, u6, u7] t (0, 0)) := heap_setCell_same W Y 0 _ _ v0 h
  have h1 : ((W.setCell ⟨Y, 0, none⟩ v0).setCell ⟨Y, 1, none⟩ v1).heap[Y]? = some (.cells #[v0, v1, u2, u3, u4, u5, u6, u7] t (0, 0)) := heap_setCell_same (W.setCell ⟨Y, 0, none⟩ v0) Y 1 _ _ v1 h0
  have h2 : (((W.setCell ⟨Y, 0, none⟩ v0).setCell ⟨Y, 1, none⟩ v1).setCell ⟨Y, 2, none⟩ v2).heap[Y]? = some (.cells #[v0, v1, v2, u3, u4, u5, u6, u7] t (0, 0)) := heap_setCell_same ((W.setCell ⟨Y, 0, none⟩ v0).setCell ⟨Y, 1, none⟩ v1) Y 2 _ _ v2 h1
  have h3 : ((((W.setCell ⟨Y, 0, none⟩ v0).setCell ⟨Y, 1, none⟩ v1).setCell ⟨Y, 2, none⟩ v2).setCell ⟨Y, 3, none⟩ v3).heap[Y]? = some (.cells #[v0, v1, v2, v3, u4, u5, u6, u7] t (0, 0)) := heap_setCell_same (((W.setCell ⟨Y, 0, none⟩ v0).setCell ⟨Y, 1, none⟩ v1).setCell ⟨Y, 2, none⟩ v2) Y 3 _ _ v3 h2
  have h4 : (((((W.setCell ⟨Y, 0, none⟩ v0).setCell ⟨Y, 1, none⟩ v1).setCell ⟨Y, 2, none⟩ v2).setCell ⟨Y, 3, none⟩ v3).setCell ⟨Y, 4, none⟩ v4).heap[Y]? = some (.cells #[v0, v1, v2, v3, v4, u5, u6, u7] t (0, 0)) := heap_setCell_same ((((W.setCell ⟨Y, 0, none⟩ v0).setCell ⟨Y, 1, none⟩ v1).setCell ⟨Y, 2, none⟩ v2).setCell ⟨Y, 3, none⟩ v3) Y 4 _ _ v4 h3
  have h5 : ((((((W.setCell ⟨Y, 0, none⟩ v0).setCell ⟨Y, 1, none⟩ v1).setCell ⟨Y, 2, none⟩ v2).setCell ⟨Y, 3, none⟩ v3).setCell ⟨Y, 4, none⟩ v4).setCell ⟨Y, 5, none⟩ v5).heap[Y]? = some (.cells #[v0, v1, v2, v3, v4, v5, u6, u7] t (0, 0)) := heap_setCell_same (((((W.setCell ⟨Y, 0, none⟩ v0).setCell ⟨Y, 1, none⟩ v1).setCell ⟨Y, 2, none⟩ v2).setCell ⟨Y, 3, none⟩ v3).setCell ⟨Y, 4, none⟩ v4) Y 5 _ _ v5 h4
  have h6 : (((((((W.setCell ⟨Y, 0, none⟩ v0).setCell ⟨Y, 1, none⟩ v1).setCell ⟨Y, 2, none⟩ v2).setCell ⟨Y, 3, none⟩ v3).setCell ⟨Y, 4, none⟩ v4).setCell ⟨Y, 5, none⟩ v5).setCell ⟨Y, 6, none⟩ v6).heap[Y]? = some (.cells #[v0, v1, v2, v3, v4, v5, v6, u7] t (0, 0)) := heap_setCell_same ((((((W.setCell ⟨Y, 0, none⟩ v0).setCell ⟨Y, 1, none⟩ v1).setCell ⟨Y, 2, none⟩ v2).setCell ⟨Y, 3, none⟩ v3).setCell ⟨Y, 4, none⟩ v4).setCell ⟨Y, 5, none⟩ v5) Y 6 _ _ v6 h5
  have h7 : ((((((((W.setCell ⟨Y, 0, none⟩ v0).setCell ⟨Y, 1, none⟩ v1).setCell ⟨Y, 2, none⟩ v2).setCell ⟨Y, 3, none⟩ v3).setCell ⟨Y, 4, none⟩ v4).setCell ⟨Y, 5, none⟩ v5).setCell ⟨Y, 6, none⟩ v6).setCell ⟨Y, 7, none⟩ v7).heap[Y]? = some (.cells #[v0, v1, v2, v3, v4, v5, v6, v7] t (0, 0)) := heap_setCell_same (((((((W.setCell ⟨Y, 0, none⟩ v0).setCell ⟨Y, 1, none⟩ v1).setCell ⟨Y, 2, none⟩ v2).setCell ⟨Y, 3, none⟩ v3).setCell ⟨Y, 4, none⟩ v4).setCell ⟨Y, 5, none⟩ v5).setCell ⟨Y, 6, none⟩ v6) Y 7 _ _ v7 h6
  exact h7
set_option maxRecDepth 100000 in
set_option maxHeartbeats 4000000 in
theorem impl_put {lo B M : Nat} {ta : Option Addr} {tl tc : Nat} {ra : Option Addr} {rl rc : Nat} {ea : Option Addr} {el ec : Nat} {now began puts : Int} {ts : List TD} {rs : List RD} {es : List Int} {m : Nat} {D : DataW Unit} (g : Nat) (r : RD) (k t : Int) (d : ByteArray) (rcs : List ByteArray) (w : World)
    (h : WK lo w B M ta tl tc ra rl rc ea el ec now began puts ts rs es m D) (hg : rs[g]? = some r) (hrl : rl ≤ 1048576) (hU : utabs w) (hd : d.size ≤ maxLen) (hp : putR r.cap r.first r.recs r.curs k t d = RO.ring r.cap r.first rcs r.curs) (hF : 0 ≤ r.first ∧ r.first ≤ 1000000) (hlen : rcs.length = r.recs.length + 1) (hle : r.rl ≤ 1000) (hcl : r.cl ≤ 1000) (hsz : ∀ s ∈ rcs, s.size ≤ 1048576) (hpu : -9000000 ≤ puts ∧ puts ≤ 9000000) :
    Calls Tryz.prog 96 #[.pointer (some ⟨B, 0, none⟩), .int .i64 (g : Int), recV k t d] w fun x w' => x = .returned (.int .i64 (r.first + (r.rl : Int))) ∧ Below lo w w' ∧
      ∃ r' : RD, r'.strip = ⟨r.cap, r.first, none, 0, 0, none, 0, 0, rcs, r.curs⟩ ∧ r'.rl = r.rl + 1 ∧ WK lo w' B M ta tl tc ra rl rc ea el ec now began (puts + 1) ts (rs.set g r') es m D := by
  have hgl : g < rl := by rw [← h.rngs.1]; exact (List.getElem?_eq_some_iff.1 hg).1
  obtain ⟨rb, rfl⟩ := own_nform h.r (by omega)
  have HK : Hid (WK lo (w.alloc (pRecO k t d)) B M ta tl tc (some ⟨rb, 0, none⟩) rl rc ea el ec now began puts ts rs es m D) := h.under (fbelow_new _ _)
  have HU : Hid (utabs (w.alloc (pRecO k t d))) := utabs_below hU (fbelow_new _ _)
  have HB0 : Hid (Below w.heap.size w (w.alloc (pRecO k t d))) := fbelow_new _ _
  have HRX : Hid ((w.alloc (pRecO k t d)).heap[w.heap.size]? = some (pRecO k t d)) := heap_alloc_new _ _
  have HG : Hid (rs[g]? = some r) := hg
  have HLO : Hid (lo ≤ w.heap.size) := Nat.le_of_lt (Nat.lt_of_le_of_lt h.lb (fb_lt h.b))
  have HR : Hid (r.fit (w.alloc (pRecO k t d))) := (h.fr r (List.mem_of_getElem? hg)).below (fbelow_new _ _)
  have hrn : r.recs.length = r.rl := HR.out.str.strs.1
  have hcn : r.curs.length = r.cl := HR.out.cur.curs.1
  have HP : Hid (putR r.cap r.first r.recs r.curs k t d = RO.ring r.cap r.first rcs r.curs) := hp
  have HRL : Hid (rcs.length = r.rl + 1 ∧ r.curs.length = r.cl) := ⟨by omega, hcn⟩
  have HSZ : Hid (∀ s ∈ rcs, s.size ≤ 1048576) := hsz
  have HD : Hid (d.size ≤ maxLen) := hd
  have hgi : decide (0 ≤ (g : Int) ∧ (g : Int) < (rl : Int)) = true := decide_eq_true ⟨by omega, by omega⟩
  have hgil : (g : Int) < (rl : Int) := by omega
  clear h hg hU hp hlen hsz hd hrn hcn
  go_enter Tryz.func96, Tryz.ntmps96
  go_wp2_with fail
  refine (impl_hasRing (g : Int) _ HK.out.b hrl).mono ?_
  rintro x v ⟨rfl, hv⟩
  rw [hv, hgi]
  clear hv v hgi
  go_upto_region 3 with fail
  obtain ⟨U, hU⟩ : ∃ U, w.alloc (pRecO k t d) = U := ⟨_, rfl⟩
  rw [hU] at HK HU HB0 HRX HR
  rw [show w.alloc (Obj.cells #[.int .i64 k, .int .i64 t, .string d] 65) = U from hU]
  clear hU
  have HZ : Hid (w.heap.size < U.heap.size) := fb_lt HRX.out
  obtain ⟨b, off, r1, e0, e1, g0, g1, g2, g3, _⟩ := rngsG_at keeps_fit HK.out.rngs (Below.refl _ _) hgl
  cases e0
  obtain rfl := Option.some.inj (HG.out.symm.trans e1)
  simp only [Nat.zero_add] at g0 g1 g2 g3
  clear e1
  have cb := fun o => fb_cell HK.out.b o
  have cr := fun o => fb_cell HRX.out o
  have HKa : Hid (WK lo (U.alloc outObj0) B M ta tl tc (some ⟨rb, 0, none⟩) rl rc ea el ec now began puts ts rs es m D) := HK.out.under (fbelow_new _ _)
  have HRXa : Hid ((U.alloc outObj0).heap[w.heap.size]? = some (pRecO k t d)) := ((fbelow_new _ _).block _ (fb_lt HRX.out)).trans HRX.out
  obtain ⟨_, _, r2, e0, e1, a0, a1, a2, a3, _⟩ := rngsG_at keeps_fit HKa.out.rngs (Below.refl _ _) hgl
  cases e0
  obtain rfl := Option.some.inj (HG.out.symm.trans e1)
  simp only [Nat.zero_add] at a0 a1 a2 a3
  clear e1
  have cba := fun o => fb_cell HKa.out.b o
  have cra := fun o => fb_cell HRXa.out o
  have HRa : Hid (r.fit (U.alloc outObj0)) := HR.out.below (fbelow_new _ _)
  have HUa : Hid (utabs (U.alloc outObj0)) := utabs_below HU.out (fbelow_new _ _)
  have HBa : Hid (Below w.heap.size w (U.alloc outObj0)) := below_tr HB0.out (fbelow_new _ _)
  have HXa : Hid ((U.alloc outObj0).heap[U.heap.size]? = some outObj0) := heap_alloc_new _ _
  go_cut [7] (fun x v => ∃ X a q b p, x = .pointer (some ⟨X, 0, none⟩) ∧ Hid (v.heap[X]? = some (pOutO r.cap r.first a (r.rl + 1) q b r.cl p)) ∧ Hid (WK lo v B M ta tl tc (some ⟨rb, 0, none⟩) rl rc ea el ec now began puts ts rs es m D) ∧ Hid (OwnRing v U.heap.size a (r.rl + 1) q b r.cl p (rcs.map Value.string) (curCells r.curs)) ∧ Hid (Below w.heap.size w v))
  case first =>
    have D : Below U.heap.size U U.drew := (Below.refl _ _).drew
    have HD1 : Hid (Below U.heap.size U U.drew) := D
    have HD2 : Hid (Below U.heap.size U (U.drew.alloc outObj0)) := below_tr D (fbelow_new _ _)
    have HX2 : Hid ((U.drew.alloc outObj0).heap[U.heap.size]? = some outObj0) := heap_alloc_new U.drew outObj0
    have HS2 : Hid ((U.drew.alloc outObj0).heap.size = U.heap.size + 1) := show _ = _ by rw [World.size_alloc]; rfl
    have cbd : ∀ o, U.drew.cell? ⟨B, o, none⟩ = _ := cb
    have crd : ∀ o, U.drew.cell? ⟨w.heap.size, o, none⟩ = _ := cr
    have g0d : U.drew.cell? ⟨rb, g * 4, none⟩ = _ := g0
    have g1d : U.drew.cell? ⟨rb, g * 4 + 1, none⟩ = _ := g1
    have g2d : U.drew.cell? ⟨rb, g * 4 + 2, none⟩ = _ := g2
    have g3d : U.drew.cell? ⟨rb, g * 4 + 3, none⟩ = _ := g3
    have cbe : ∀ o, (U.drew.alloc outObj0).cell? ⟨B, o, none⟩ = _ := cba
    have cre : ∀ o, (U.drew.alloc outObj0).cell? ⟨w.heap.size, o, none⟩ = _ := cra
    have a0e : (U.drew.alloc outObj0).cell? ⟨rb, g * 4, none⟩ = _ := a0
    have a1e : (U.drew.alloc outObj0).cell? ⟨rb, g * 4 + 1, none⟩ = _ := a1
    have a2e : (U.drew.alloc outObj0).cell? ⟨rb, g * 4 + 2, none⟩ = _ := a2
    have a3e : (U.drew.alloc outObj0).cell? ⟨rb, g * 4 + 3, none⟩ = _ := a3
    clear D
    go_region_with (first
      | (go_at_call 148; refine (impl_ringPut r.recs r.curs k t d _ (HR.out.below HD1.out) HD.out (utabs_below HU.out HD1.out)).mono ?_; rintro x v ha; rw [HP.out] at ha; simp only [Answers, RO.ring, HRL.out.1, HRL.out.2] at ha; obtain ⟨a, q, b, p, rfl, ho, hb⟩ := ha; have HBU : Hid (Below U.heap.size U v) := below_tr HD1.out hb; have HOA : Hid (OwnRing v U.heap.size a (r.rl + 1) q b r.cl p (rcs.map Value.string) (curCells r.curs)) := ho; clear ho hb)
      | (go_at_call 148; refine (impl_ringPut r.recs r.curs k t d _ (HR.out.below HD2.out) HD.out (utabs_below HU.out HD2.out)).mono ?_; rintro x v ha; rw [HP.out] at ha; simp only [Answers, RO.ring, HRL.out.1, HRL.out.2] at ha; obtain ⟨a, q, b, p, rfl, ho, hb⟩ := ha; have HBU : Hid (Below U.heap.size U v) := below_tr HD2.out hb; rw [HS2.out] at ho; have HOB : Hid (OwnRing v (U.heap.size + 1) a (r.rl + 1) q b r.cl p (rcs.map Value.string) (curCells r.curs)) := ho; have HXV : Hid (v.heap[U.heap.size]? = some outObj0) := (hb.block _ (by rw [HS2.out]; omega)).trans HX2.out; have cxv := fun o => fb_cell HXV.out o; have fxv := fun o => unfrozen_of_block0 HXV.out o; clear ho hb))
    all_goals
      go_wp2_with fail
      go_meet
      first
        | (have h9 := HOA; exact ⟨_, a, q, b, p, rfl, heap_alloc_new _ _, HK.out.under (below_tr HBU.out (fbelow_new _ _)), ⟨own_below HOA.out.1 (fbelow_new _ _), own_below HOA.out.2 (fbelow_new _ _)⟩, below_tr HB0.out (below_tr HBU.out (fbelow_new _ _))⟩)
        | (have h9 := HOB; exact ⟨_, a, q, b, p, rfl, out_put8 v U.heap.size _ _ _ _ _ _ _ _ _ _ _ _ _ _ _ _ _ HXV.out, HK.out.under (below_set8 HBU.out U.heap.size (Nat.le_refl _) _ _ _ _ _ _ _ _), ⟨own_base (own_set8 HOB.out.1 U.heap.size (Nat.lt_succ_self _) _ _ _ _ _ _ _ _) (Nat.le_succ _), own_base (own_set8 HOB.out.2 U.heap.size (Nat.lt_succ_self _) _ _ _ _ _ _ _ _) (Nat.le_succ _)⟩, below_tr HB0.out (below_set8 HBU.out U.heap.size (Nat.le_refl _) _ _ _ _ _ _ _ _)⟩)
  case rest =>
  obtain ⟨X, a, q, b, p, rfl, HX, HK2, HO, HB2⟩ := hcut
  clear HKa HRXa HRa HUa HBa HXa cba cra a0 a1 a2 a3 g0 g1 g2 g3 cb cr HP
  have cx := fun o => fb_cell HX.out o
  have cb := fun o => fb_cell HK2.out.b o
  obtain ⟨_, _, r2, e0, e1, g0, g1, g2, g3, _⟩ := rngsG_at keeps_fit HK2.out.rngs (Below.refl _ _) hgl
  cases e0
  obtain rfl := Option.some.inj (HG.out.symm.trans e1)
  simp only [Nat.zero_add] at g0 g1 g2 g3
  clear e1
  go_wp2_with fail
  refine (impl_atWork (cap := r.cap) (first := r.first) (ra := r.ra) (rl := r.rl) (rc := r.rc) (ca := r.ca) (cl := r.cl) (cc := r.cc) _).mono ?_
  rintro e v ⟨rfl, hbv, hwk, hsz⟩
  obtain ⟨Y, hY⟩ : ∃ Y, wc.heap.size + 1 = Y := ⟨_, rfl⟩
  have HW : Hid (Work v Y r.cap r.first r.ra r.rl r.rc r.ca r.cl r.cc 0 0 0) := hY ▸ hwk
  have HBV : Hid (Below wc.heap.size wc v) := hbv
  rw [hY]
  clear hY hbv hwk hsz g0 g1 g2 g3 cb cx
  go_wp2_with fail
  refine (impl_end Y 0 0 0 v HW.out hF (by omega)).mono ?_
  rintro e v2 ⟨rfl, hb2⟩
  have HBW : Hid (Below wc.heap.size wc v2) := below_tr HBV.out hb2
  have HK3 : Hid (WK lo v2 B M ta tl tc (some ⟨rb, 0, none⟩) rl rc ea el ec now began puts ts rs es m D) := HK2.out.under HBW.out
  have HX3 : Hid (v2.heap[X]? = some (pOutO r.cap r.first a (r.rl + 1) q b r.cl p)) := (HBW.out.block _ (fb_lt HX.out)).trans HX.out
  have HO3 : Hid (OwnRing v2 U.heap.size a (r.rl + 1) q b r.cl p (rcs.map Value.string) (curCells r.curs)) := ⟨own_below HO.out.1 HBW.out, own_below HO.out.2 HBW.out⟩
  have HB3 : Hid (Below w.heap.size w v2) := below_tr HB2.out HBW.out
  clear hb2 HBV HBW HW HK2 HX HO HB2
  have cx := fun o => fb_cell HX3.out o
  have cb := fun o => fb_cell HK3.out.b o
  obtain ⟨_, _, r2, e0, e1, g0, g1, g2, g3, _⟩ := rngsG_at keeps_fit HK3.out.rngs (Below.refl _ _) hgl
  cases e0
  obtain rfl := Option.some.inj (HG.out.symm.trans e1)
  simp only [Nat.zero_add] at g0 g1 g2 g3
  have hfr := fun j => (HK3.out.r).frozenAt j
  have hfrd : ∀ j, v2.drew.frozen? _ = _ := hfr
  have cxd : ∀ o, v2.drew.cell? ⟨X, o, none⟩ = _ := cx
  have cbd : ∀ o, v2.drew.cell? ⟨B, o, none⟩ = _ := cb
  clear e1
  have hgl2 : g < rs.length := (List.getElem?_eq_some_iff.1 HG.out).1
  have HKs : Hid (WK lo (set4 v2.drew rb (g * 4) (.int .i64 r.cap) (.int .i64 r.first) (.slice a (r.rl + 1) q) (.slice b r.cl p)) B M ta tl tc (some ⟨rb, 0, none⟩) rl rc ea el ec now began puts ts (rs.set g ⟨r.cap, r.first, a, r.rl + 1, q, b, r.cl, p, rcs, r.curs⟩) es m D) :=
    (HK3.out.under ((Below.refl _ _).drew)).setR g hgl2 ⟨r.cap, r.first, a, r.rl + 1, q, b, r.cl, p, rcs, r.curs⟩ (RFit.below (own_fitR (n := r.rl + 1) (m := r.cl) HO3.out HSZ.out (by omega) (by omega)) ((Below.refl _ _).drew)) (fun Q hQ => ⟨off_new HO3.out.1 (HK.out.mine_lt hQ).2, off_new HO3.out.2 (HK.out.mine_lt hQ).2⟩)
  have hrb : lo ≤ rb := (HK3.out.mine_lt (X := rb) (.inr (.inr (.inr (.inl rfl))))).1
  have HBs : Hid (Below lo w (set4 v2.drew rb (g * 4) (.int .i64 r.cap) (.int .i64 r.first) (.slice a (r.rl + 1) q) (.slice b r.cl p))) :=
    (((((HB3.out.mono HLO.out).drew).setCell (p := ⟨rb, g * 4, none⟩) hrb _).setCell (p := ⟨rb, g * 4 + 1, none⟩) hrb _).setCell (p := ⟨rb, g * 4 + 2, none⟩) hrb _).setCell (p := ⟨rb, g * 4 + 3, none⟩) hrb _
  clear hgl2 hrb
  go_upto_region 7 with fail
  go_cut [] (fun wd => Hid (WK lo wd B M ta tl tc (some ⟨rb, 0, none⟩) rl rc ea el ec now began puts ts (rs.set g ⟨r.cap, r.first, a, r.rl + 1, q, b, r.cl, p, rcs, r.curs⟩) es m D) ∧ Hid (Below lo w wd))
  case first =>
    go_region
    all_goals
      go_wp2_with fail
      go_meet
      exact ⟨HKs, HBs⟩
  case rest =>
  obtain ⟨HK4, HB4⟩ := hcut
  clear HKs HBs HK3 HB3 HX3 HO3 cx cb cxd cbd g0 g1 g2 g3 hfr hfrd
  have cb := fun o => fb_cell HK4.out.b o
  have fb := fun o => unfrozen_of_block0 HK4.out.b o
  go_wp2_with fail
  refine (impl_addPuts B 6 puts _ (cb 6) (fb 6) (by omega)).mono ?_
  rintro x v ⟨rfl, hv⟩
  have HK5 : Hid (WK lo v B M ta tl tc (some ⟨rb, 0, none⟩) rl rc ea el ec now began (puts + 1) ts (rs.set g ⟨r.cap, r.first, a, r.rl + 1, q, b, r.cl, p, rcs, r.curs⟩) es m D) := by
    rw [hv]
    exact HK4.out.put (HK4.out.box 6 (.int .i64 (puts + 1))).1 (HK4.out.box 6 (.int .i64 (puts + 1))).2
  have HB5 : Hid (Below lo w v) := by
    rw [hv]
    exact HB4.out.setCell (p := ⟨B, 6, none⟩) HK4.out.lb _
  clear hv cb fb HK4 HB4
  go_wp2
  go_ret
  exact ⟨rfl, HB5.out, ⟨r.cap, r.first, a, r.rl + 1, q, b, r.cl, p, rcs, r.curs⟩, rfl, rfl, HK5.out⟩
end Go.Proofs.YtahccighonddaaaGreatDoor
namespace Go.Proofs.YtahccighonddaaaGreatDoor
open Go.RowKit Go.Maps
attribute [local go_sem ↓] Go.wp_at_zero Go.wp_at_succ
set_option linter.unusedSimpArgs false
set_option linter.unusedVariables false
theorem put_right {cap first : Int} {recs rcs : List ByteArray} {curs : List (Int × Int)} {k t : Int} {d : ByteArray} (h : putR cap first recs curs k t d = RO.ring cap first rcs curs) : ringRightB cap first recs curs = true ∧ recRightB k t d = true := by
  by_cases hh : ringRightB cap first recs curs = false ∨ recRightB k t d = false
  · unfold putR at h
    rw [if_pos hh] at h
    have := congrArg RO.c h
    simp [RO.ill, RO.ring] at this
  · cases h1 : ringRightB cap first recs curs <;> cases h2 : recRightB k t d <;> simp_all
theorem strip_some {α : Type} {f : α → α} {l l' : List α} (h : l'.map f = l.map f) {k : Nat} {t : α} (hk : l[k]? = some t) : ∃ t', l'[k]? = some t' ∧ f t' = f t := by
  have h1 : (l'.map f)[k]? = (l.map f)[k]? := by rw [h]
  rw [List.getElem?_map, List.getElem?_map, hk] at h1
  exact Option.map_eq_some_iff.1 h1
end Go.Proofs.YtahccighonddaaaGreatDoor
namespace Go.Proofs.YtahccighonddaaaGreatDoor
open Go.RowKit Go.Maps
attribute [local go_sem ↓] Go.wp_at_zero Go.wp_at_succ
set_option linter.unusedSimpArgs false
set_option linter.unusedVariables false
variable {aN aF aR aS aM aL : Addr}
end Go.Proofs.YtahccighonddaaaGreatDoor
namespace Go.Proofs.YtahccighonddaaaGreatDoor
open Go.RowKit Go.Maps
attribute [local go_sem ↓] Go.wp_at_zero Go.wp_at_succ
set_option linter.unusedSimpArgs false
set_option linter.unusedVariables false
variable {aN aF aR aS aM aL : Addr}
theorem endSum_set {rs : List RD} {g : Nat} {r r' : RD} (hg : rs[g]? = some r) (hf : r'.first = r.first) (hr : r'.rl = r.rl + 1) : endSum (rs.set g r') = endSum rs + 1 := by
  unfold endSum
  induction rs generalizing g with
  | nil => simp at hg
  | cons z l ih =>
    cases g with
    | zero =>
      simp only [List.getElem?_cons_zero, Option.some.injEq] at hg
      subst hg
      simp [hf, hr]
      omega
    | succ g =>
      rw [List.getElem?_cons_succ] at hg
      have := ih hg
      simp only [List.set_cons_succ, List.map_cons, List.sum_cons] at this ⊢
      omega
end Go.Proofs.YtahccighonddaaaGreatDoor
namespace Go.Proofs.YtahccighonddaaaGreatDoor
open Go.RowKit Go.Maps
attribute [local go_sem ↓] Go.wp_at_zero Go.wp_at_succ
set_option linter.unusedSimpArgs false
set_option linter.unusedVariables false
variable {aN aF aR aS aM aL : Addr}
end Go.Proofs.YtahccighonddaaaGreatDoor
namespace Go.Proofs.YtahccighonddaaaGreatDoor
open Go.RowKit
set_option linter.unusedSimpArgs false
set_option linter.unusedVariables false
theorem strip_at2 {α : Type} {f : α → α} {l l' : List α} (h : l'.map f = l.map f) (k : Nat) : (l[k]? = none ∧ l'[k]? = none) ∨ ∃ t t', l[k]? = some t ∧ l'[k]? = some t' ∧ f t' = f t := by
  have h1 : (l'.map f)[k]? = (l.map f)[k]? := by rw [h]
  rw [List.getElem?_map, List.getElem?_map] at h1
  cases e : l[k]? with
  | none =>
    rw [e] at h1
    cases e' : l'[k]? with
    | none => exact .inl ⟨rfl, rfl⟩
    | some t' => rw [e'] at h1; cases h1
  | some t =>
    rw [e] at h1
    cases e' : l'[k]? with
    | none => rw [e'] at h1; cases h1
    | some t' => rw [e'] at h1; exact .inr ⟨t, t', rfl, rfl, Option.some.inj h1⟩
end Go.Proofs.YtahccighonddaaaGreatDoor
namespace Go.Proofs.YtahccighonddaaaGreatDoor
open Go.RowKit Go.Maps
attribute [local go_sem ↓] Go.wp_at_zero Go.wp_at_succ
set_option linter.unusedSimpArgs false
set_option linter.unusedVariables false
def sendT (rs : List RD) (es : List Int) (ts : List TD) (now p e g : Int) (d : ByteArray) : FT := if d.size ≤ 8000 then ftOf (fabRightB rs es ts now) (sendR rs es ts now p e g d) else ftIll 2
theorem send_code {rs : List RD} {es : List Int} {ts : List TD} {now p e g c : Int} {d : ByteArray} (h8 : d.size ≤ 8000) (hc : (if fabRightB rs es ts now && decide (d.size ≤ 16) then heardC es p e else 1) = c) :
    (c ≠ 0 → sendT rs es ts now p e g d = ftIll c) ∧ (c = 0 → fabRightB rs es ts now = true ∧ d.size ≤ 16 ∧ heardC es p e = 0) := by
  unfold sendT
  rw [if_pos h8]
  cases hR : fabRightB rs es ts now with
  | false =>
    rw [hR] at hc
    simp only [Bool.false_and, Bool.false_eq_true, if_false] at hc
    subst hc
    exact ⟨fun _ => rfl, fun h => absurd h (by decide)⟩
  | true =>
    rw [hR, Bool.true_and] at hc
    by_cases h16 : d.size ≤ 16
    · rw [decide_eq_true h16, if_pos rfl] at hc
      exact ⟨fun h => by rw [send_unheard h16 (by rw [hc]; exact h), hc]; rfl, fun h => ⟨rfl, h16, by rw [hc]; exact h⟩⟩
    · rw [decide_eq_false h16, if_neg (by decide)] at hc
      exact ⟨fun h => by rw [send_size h16, ← hc]; rfl, fun h => absurd (hc.trans h) (by decide)⟩
set_option maxRecDepth 100000 in
set_option maxHeartbeats 4000000 in
theorem spec_Send (ra : Option Addr) (rl rc : Nat) (ea : Option Addr) (el ec : Nat) (ta : Option Addr) (tl tc : Nat) (now n e g : Int) (d : ByteArray) (rs : List RD) (es : List Int) (ts : List TD) (w : World)
    (hi : FIn w ra rl ea el ta tl rs es ts) (hen : ea = none → el = 0 ∧ ec = 0) (hdm : d.size ≤ maxLen) :
    Calls Tryz.prog 8 #[fabVal ra rl rc ea el ec ta tl tc now, .int .i64 n, .int .i64 e, .int .i64 g, .string d] w fun x w' => AnsT w w' (sendT rs es ts now n e g d) x ∧ Below w.heap.size w w' := by
  have HI : Hid (FIn w ra rl ea el ta tl rs es ts) := hi
  have HEN : Hid (ea = none → el = 0 ∧ ec = 0) := hen
  have HS0 : Hid (T2 w ((w.alloc (fabO ra rl rc ea el ec ta tl tc now)).alloc (outO none 0 0 none 0 0 none 0 0 0 0 0)) (fabO ra rl rc ea el ec ta tl tc now) (outO none 0 0 none 0 0 none 0 0 0 0 0)) := t2_start ..
  have hle : w.heap.size ≤ w.heap.size + 1 := by omega
  have hrl := hi.rle
  have htl := hi.tle
  have HLT : Hid (ts.length = tl) := hi.ts.1
  clear hi hen
  obtain ⟨T, hT⟩ : ∃ T, sendT rs es ts now n e g d = T := ⟨_, rfl⟩
  have HT : Hid (sendT rs es ts now n e g d = T) := hT
  rw [hT]
  clear hT
  have HILL : Hid (∀ c : Int, T = ftIll c → ∀ (v2 : World) (v0 v1 v2' v3 v4 v5 : Value), T2 w v2 (fabO ra rl rc ea el ec ta tl tc now) (outO none 0 0 none 0 0 none 0 0 0 0 0) → AnsT w (set6 v2 (w.heap.size + 1) v0 v1 v2' v3 v4 v5) T (.returned (illV c)) ∧ Below w.heap.size w (set6 v2 (w.heap.size + 1) v0 v1 v2' v3 v4 v5)) := fun c hc v2 _ _ _ _ _ _ h2 => ⟨by rw [hc]; exact ansT_ill _ _ c, below_set6o h2.below hle _ _ _ _ _ _⟩
  by_cases h8 : d.size ≤ 8000
  case neg =>
    have hsi : (8000 : Int) < (d.size : Int) := by omega
    have HTI : Hid (T = ftIll 2) := show _ = _ by rw [← HT.out]; exact if_neg h8
    clear h8
    go_enter Tryz.func8, Tryz.ntmps8
    go_wp2_with fail
    refine (spec_oill 2 _).mono ?_
    rintro x v2 ⟨rfl, hb2⟩
    have HS2 : Hid (T2 w v2 (fabO ra rl rc ea el ec ta tl tc now) (outO none 0 0 none 0 0 none 0 0 0 0 0)) := HS0.out.under hb2
    clear hb2 HS0
    have cy := fun o => HS2.out.cell1 o
    have fy := fun o => HS2.out.free1 o
    go_wp2
    exact bodyPost_ret (v := illV 2) (by simp [results, Tryz.results8, go_sem, cy]) rfl (HILL.out 2 HTI.out _ _ _ _ _ _ _ HS2.out)
  case pos =>
  have hsi : ¬ ((8000 : Int) < (d.size : Int)) := by omega
  have H8 : Hid (d.size ≤ 8000) := h8
  clear h8
  have c0 := fun o => HS0.out.cell0 o
  have hdd : decide ((d.size : Int) ≤ 16) = decide (d.size ≤ 16) := by rw [decide_eq_decide]; omega
  go_enter Tryz.func8, Tryz.ntmps8
  go_wp2_with fail
  refine (spec_lcode ra rl rc ea el ec ta tl tc now n e (decide (d.size ≤ 16)) rs es ts _ (HI.out.below HS0.out.below)).mono ?_
  rintro x v1 ⟨rfl, hb1⟩
  have HS1 : Hid (T2 w v1 (fabO ra rl rc ea el ec ta tl tc now) (outO none 0 0 none 0 0 none 0 0 0 0 0)) := HS0.out.under hb1
  clear hb1 HS0 c0
  have c0 := fun o => HS1.out.cell0 o
  obtain ⟨c, hc⟩ : ∃ c : Int, (if fabRightB rs es ts now && decide (d.size ≤ 16) then heardC es n e else 1) = c := ⟨_, rfl⟩
  have HCD : Hid _ := send_code (g := g) H8.out hc
  rw [hc]
  clear hc hdd
  by_cases h0 : c = 0
  case neg =>
    have HTI : Hid (T = ftIll c) := show _ = _ by rw [← HT.out]; exact HCD.out.1 h0
    have h0' : (c != 0) = true := by rw [bne_iff_ne]; exact h0
    clear h0
    go_wp2_with fail
    refine (spec_oill c _).mono ?_
    rintro x v9 ⟨rfl, hb9⟩
    have HS9 : Hid (T2 w v9 (fabO ra rl rc ea el ec ta tl tc now) (outO none 0 0 none 0 0 none 0 0 0 0 0)) := HS1.out.under hb9
    clear hb9 HS1 c0
    have cy := fun o => HS9.out.cell1 o
    have fy := fun o => HS9.out.free1 o
    go_wp2
    exact bodyPost_ret (v := illV c) (by simp [results, Tryz.results8, go_sem, cy]) rfl (HILL.out c HTI.out _ _ _ _ _ _ _ HS9.out)
  case pos =>
  subst h0
  obtain ⟨hR, h16, hh⟩ := HCD.out.2 rfl
  have HR : Hid (fabRightB rs es ts now = true) := hR
  have H16 : Hid (d.size ≤ 16) := h16
  have HH : Hid (heardC es n e = 0) := hh
  have HTS : Hid (T = ftOf true (sendR rs es ts now n e g d)) := show _ = _ by rw [← HT.out]; unfold sendT; rw [if_pos H8.out, HR.out]
  have hel : el = 4 := by have h1 := (right_sizes hR).2.2.1; have := HI.out.es.1; omega
  have ht12 : tl ≤ 12 := by have h1 := (right_sizes hR).2.2.2; have := HLT.out; omega
  have hrn : rs.length = rl := HI.out.rs.1
  subst hel
  clear hR h16 hh HCD
  go_wp2_with fail
  refine (spec_there ra rl rc ea 4 ec ta tl tc now g _ (by omega)).mono ?_
  rintro x v2 ⟨rfl, hb2⟩
  have HS2 : Hid (T2 w v2 (fabO ra rl rc ea 4 ec ta tl tc now) (outO none 0 0 none 0 0 none 0 0 0 0 0)) := HS1.out.under hb2
  clear hb2 HS1 c0
  have c0 := fun o => HS2.out.cell0 o
  by_cases hg : 0 ≤ g ∧ g < (rs.length : Int)
  case neg =>
    have hgd : decide (0 ≤ g ∧ g ≤ (rl : Int) - 1) = false := decide_eq_false (by omega)
    have HTI : Hid (T = ftIll 8) := show _ = _ by rw [HTS.out, send_noring H16.out HH.out hg]; rfl
    rw [hgd]
    clear hg hgd hrn
    go_wp2_with fail
    refine (spec_oill 8 _).mono ?_
    rintro x v9 ⟨rfl, hb9⟩
    have HS9 : Hid (T2 w v9 (fabO ra rl rc ea 4 ec ta tl tc now) (outO none 0 0 none 0 0 none 0 0 0 0 0)) := HS2.out.under hb9
    clear hb9 HS2 c0
    have cy := fun o => HS9.out.cell1 o
    have fy := fun o => HS9.out.free1 o
    go_wp2
    exact bodyPost_ret (v := illV 8) (by simp [results, Tryz.results8, go_sem, cy]) rfl (HILL.out 8 HTI.out _ _ _ _ _ _ _ HS9.out)
  case pos =>
  have hgd : decide (0 ≤ g ∧ g ≤ (rl : Int) - 1) = true := decide_eq_true (by omega)
  rw [hgd]
  clear hgd
  go_wp2_with fail
  refine (spec_lopen ra rl rc ea 4 ec ta tl tc now n ts _ (HI.out.below HS2.out.below).ts htl).mono ?_
  rintro x v3 ⟨rfl, hb3⟩
  have HS3 : Hid (T2 w v3 (fabO ra rl rc ea 4 ec ta tl tc now) (outO none 0 0 none 0 0 none 0 0 0 0 0)) := HS2.out.under hb3
  clear hb3 HS2 c0
  have c0 := fun o => HS3.out.cell0 o
  cases hN : openOf ts n with
  | zero =>
    have HTI : Hid (T = ftIll 10) := show _ = _ by rw [HTS.out, send_closed H16.out HH.out hg hN]; rfl
    clear hg hN hrn
    go_wp2_with fail
    refine (spec_oill 10 _).mono ?_
    rintro x v9 ⟨rfl, hb9⟩
    have HS9 : Hid (T2 w v9 (fabO ra rl rc ea 4 ec ta tl tc now) (outO none 0 0 none 0 0 none 0 0 0 0 0)) := HS3.out.under hb9
    clear hb9 HS3 c0
    have cy := fun o => HS9.out.cell1 o
    have fy := fun o => HS9.out.free1 o
    go_wp2
    exact bodyPost_ret (v := illV 10) (by simp [results, Tryz.results8, go_sem, cy]) rfl (HILL.out 10 HTI.out _ _ _ _ _ _ _ HS9.out)
  | succ k =>
  obtain ⟨t, htk, hts1, _⟩ := openOf_is hN
  obtain ⟨G, rfl⟩ : ∃ G : Nat, g = (G : Int) := ⟨g.toNat, by omega⟩
  obtain ⟨r, hrg⟩ : ∃ r, rs[G]? = some r := ⟨rs[G]'(by omega), List.getElem?_eq_getElem _⟩
  have HTA : Hid (T = ftOf true (if roomB r (needN ts t (G : Int)) then .ok ⟨rs.set G (dataRec r k d), es, ts.set k (touchT t (G : Int)), now, r.first + (r.recs.length : Int)⟩ else .error 9)) := show _ = _ by rw [HTS.out, send_at H16.out HH.out hrg hN htk]
  have HTK : Hid (ts[k]? = some t) := htk
  have HT1 : Hid (t.s = 1) := hts1
  have HRG : Hid (rs[G]? = some r) := hrg
  have hkl : k < tl := by have h1 := (List.getElem?_eq_some_iff.1 htk).1; have := HLT.out; omega
  have hgl : G < rl := by omega
  have hki : (k : Int) < (tl : Int) := by omega
  have hgi : (G : Int) < (rl : Int) := by omega
  have hkp : (((k + 1 : Nat) : Int) == 0) = false := by rw [beq_eq_false_iff_ne]; omega
  have hwk : IntKind.i64.wrap (((k + 1 : Nat) : Int) - 1) = (k : Int) := by rw [show ((k + 1 : Nat) : Int) - 1 = (k : Int) by omega]; exact twrap_in _ (by omega) (by omega)
  clear hg hN hrn htk hts1 hrg HTS
  go_wp2_with fail
  refine (spec_lowed ra rl rc ea 4 ec ta tl tc now (G : Int) ts _ (HI.out.below HS3.out.below).ts htl).mono ?_
  rintro x v4 ⟨rfl, hb4⟩
  have HS4 : Hid (T2 w v4 (fabO ra rl rc ea 4 ec ta tl tc now) (outO none 0 0 none 0 0 none 0 0 0 0 0)) := HS3.out.under hb4
  clear hb4 HS3 c0
  have c0 := fun o => HS4.out.cell0 o
  obtain ⟨O, hO⟩ : ∃ O, owedN ts (G : Int) = O := ⟨_, rfl⟩
  have HO : Hid (owedN ts (G : Int) = O) := hO
  have hO12 : O ≤ 12 := by have h1 := owedN_le ts (G : Int); have := HLT.out; omega
  rw [hO]
  clear hO
  have hw1 : IntKind.i64.wrap ((O : Int) + 1) = (O : Int) + 1 := twrap_in _ (by omega) (by omega)
  have hw2 : IntKind.i64.wrap ((O : Int) + 1 + 1) = (O : Int) + 1 + 1 := twrap_in _ (by omega) (by omega)
  obtain ⟨tb, toff, t1, hta, ht1, g0, g1, g2, g3, g4, g5, hf⟩ := txsG_at keeps_tfit HI.out.ts HS4.out.below hkl
  obtain rfl := Option.some.inj (HTK.out.symm.trans ht1)
  subst hta
  have HF4 : Hid (TFit v4 t) := hf.out
  clear ht1 hf
  go_wp2_with fail
  refine (spec_has _ _ _ t.rs (G : Int) _ HF4.out.r.nums HF4.out.rle).mono ?_
  rintro x v5 ⟨rfl, hv5⟩
  rw [hv5]
  clear hv5 v5
  obtain ⟨N, hN⟩ : ∃ N, needN ts t (G : Int) = N := ⟨_, rfl⟩
  have HNP : Hid (1 ≤ N ∧ N ≤ 14) := ⟨by rw [← hN]; exact needN_pos, by have h1 := needN_le (ts := ts) (g := (G : Int)) (t := t); have h2 := HLT.out; omega⟩
  have HTB : Hid (T = ftOf true (if roomB r N then .ok ⟨rs.set G (dataRec r k d), es, ts.set k (touchT t (G : Int)), now, r.first + (r.recs.length : Int)⟩ else .error 9)) := show _ = _ by rw [HTA.out, hN]
  obtain ⟨B, hB⟩ : ∃ B, hasB t.rs (G : Int) = B := ⟨_, rfl⟩
  have hNv : N = O + (if B then 1 else 2) := by rw [← hN, ← hB, ← HO.out]; rfl
  rw [hB]
  clear hB hN HTA
  go_upto_if 55 with fail
  go_cut [13] (fun nd wd => nd = .int .i64 (N : Int) ∧ Hid (wd = v4))
  case first =>
    cases B with
    | true =>
      have hn1 : N = O + 1 := by simpa using hNv
      subst hn1
      clear hNv
      go_wp2_with fail
      go_meet
      exact ⟨by rw [Int.natCast_add]; rfl, rfl⟩
    | false =>
      have hn1 : N = O + 1 + 1 := by simpa using hNv
      subst hn1
      clear hNv
      go_wp2_with fail
      go_meet
      exact ⟨by rw [Int.natCast_add, Int.natCast_add]; rfl, rfl⟩
  case rest =>
  obtain ⟨rfl, hwd⟩ := hcut
  obtain rfl : v4 = wc := hwd.out.symm
  clear hwd hNv hw1 hw2 HO hO12 g0 g1 g2 g3 g4 g5
  obtain ⟨rb, roff, r1, hra, hr1, q0, q1, q2, q3, hrf⟩ := rngsG_at keeps_fit HI.out.rs HS4.out.below hgl
  subst hra
  obtain rfl := Option.some.inj (HRG.out.symm.trans hr1)
  have HRF : Hid (r.fit v4) := hrf.out
  have HRR : Hid (ringRightB r.cap r.first r.recs r.curs = true) := fit_right (right_ring HR.out HRG.out)
  have hfb := right_first HRR.out
  have HFB : Hid ((0 ≤ r.first ∧ r.first ≤ 1000000) ∧ (4 ≤ r.cap ∧ r.cap ≤ 16)) := ⟨hfb.1, hfb.2.1⟩
  have hrle : r.rl ≤ 1048576 := HRF.out.rle
  have HRN : Hid (r.recs.length = r.rl) := HRF.out.str.strs.1
  have HRB : Hid (roomB r N = (decide ((N : Int) ≤ r.cap - (r.rl : Int)) && decide (r.first + (r.rl : Int) + (N : Int) ≤ 1000000))) := show _ = _ by unfold roomB; rw [HRN.out]
  have hwe : IntKind.i64.wrap (r.first + (r.rl : Int) + (N : Int)) = r.first + (r.rl : Int) + (N : Int) := twrap_in _ (by have := HFB.out.1; have := HNP.out; omega) (by have := HFB.out.1; have := HNP.out; omega)
  clear hr1 hrf hfb
  go_wp2_with fail
  refine (spec_lroom _ ⟨by have := HFB.out.2; omega, by have := HFB.out.2; omega⟩ hrle).mono ?_
  rintro x v6 ⟨rfl, hb6⟩
  have HS6 : Hid (T2 w v6 (fabO (some ⟨rb, roff, none⟩) rl rc ea 4 ec (some ⟨tb, toff, none⟩) tl tc now) (outO none 0 0 none 0 0 none 0 0 0 0 0)) := HS4.out.under hb6
  have HR6 : Hid (r.fit v6) := HRF.out.below hb6
  have p0 := cell_below q0 hb6
  have p1 := cell_below q1 hb6
  have p2 := cell_below q2 hb6
  have p3 := cell_below q3 hb6
  clear hb6 HS4 HRF c0 q0 q1 q2 q3
  have c0 := fun o => HS6.out.cell0 o
  by_cases hrm : r.cap - (r.rl : Int) < (N : Int)
  case pos =>
    have HTI : Hid (T = ftIll 9) := show _ = _ by rw [HTB.out, HRB.out, decide_eq_false (by omega)]; rfl
    go_wp2_with fail
    refine (spec_oill 9 _).mono ?_
    rintro x v9 ⟨rfl, hb9⟩
    have HS9 : Hid (T2 w v9 (fabO (some ⟨rb, roff, none⟩) rl rc ea 4 ec (some ⟨tb, toff, none⟩) tl tc now) (outO none 0 0 none 0 0 none 0 0 0 0 0)) := HS6.out.under hb9
    clear hb9 HS6 c0
    have cy := fun o => HS9.out.cell1 o
    have fy := fun o => HS9.out.free1 o
    go_wp2
    exact bodyPost_ret (v := illV 9) (by simp [results, Tryz.results8, go_sem, cy]) rfl (HILL.out 9 HTI.out _ _ _ _ _ _ _ HS9.out)
  case neg =>
  go_wp2_with fail
  refine (spec_end _ _ _ _ _ _ _ _ _ HFB.out.1 hrle).mono ?_
  rintro x v7 ⟨rfl, hb7⟩
  have HS7 : Hid (T2 w v7 (fabO (some ⟨rb, roff, none⟩) rl rc ea 4 ec (some ⟨tb, toff, none⟩) tl tc now) (outO none 0 0 none 0 0 none 0 0 0 0 0)) := HS6.out.under hb7
  have HR7 : Hid (r.fit v7) := HR6.out.below hb7
  have q0 := cell_below p0 hb7
  have q1 := cell_below p1 hb7
  have q2 := cell_below p2 hb7
  have q3 := cell_below p3 hb7
  clear hb7 HS6 HR6 c0 p0 p1 p2 p3
  have c0 := fun o => HS7.out.cell0 o
  by_cases hfm : (1000000 : Int) < r.first + (r.rl : Int) + (N : Int)
  case pos =>
    have HTI : Hid (T = ftIll 9) := show _ = _ by rw [HTB.out, HRB.out, decide_eq_false (p := r.first + (r.rl : Int) + (N : Int) ≤ 1000000) (by omega), Bool.and_false]; rfl
    go_wp2_with fail
    refine (spec_oill 9 _).mono ?_
    rintro x v9 ⟨rfl, hb9⟩
    have HS9 : Hid (T2 w v9 (fabO (some ⟨rb, roff, none⟩) rl rc ea 4 ec (some ⟨tb, toff, none⟩) tl tc now) (outO none 0 0 none 0 0 none 0 0 0 0 0)) := HS7.out.under hb9
    clear hb9 HS7 c0
    have cy := fun o => HS9.out.cell1 o
    have fy := fun o => HS9.out.free1 o
    go_wp2
    exact bodyPost_ret (v := illV 9) (by simp [results, Tryz.results8, go_sem, cy]) rfl (HILL.out 9 HTI.out _ _ _ _ _ _ _ HS9.out)
  case neg =>
  have HRM : Hid (roomB r N = true) := show _ = _ by rw [HRB.out, decide_eq_true (by omega), decide_eq_true (by omega)]; rfl
  have HTE : Hid (T = ⟨rs.set G (dataRec r k d), es, ts.set k (touchT t (G : Int)), now, r.first + (r.recs.length : Int), 0⟩) := show _ = _ by rw [HTB.out, HRM.out]; rfl
  have HPUT : Hid _ := right_send (k := k) HR.out HRG.out (by omega) H16.out HNP.out.1 HRM.out
  have HPR : Hid _ := put_right HPUT.out
  have HRL : Hid ((r.recs ++ [recText 1 ((k : Int) + 1) d]).length = r.rl + 1 ∧ r.curs.length = r.cl) := ⟨by rw [List.length_append, List.length_singleton, HRN.out], HR7.out.cur.curs.1⟩
  clear HTB HRB
  go_wp2_with fail
  refine (spec_lput r.recs r.curs 1 ((k : Int) + 1) d _ HR7.out HPR.out.1 HPR.out.2).mono ?_
  rintro x v8 ha
  rw [HPUT.out] at ha
  simp only [Answers, RO.ring, HRL.out.1, HRL.out.2] at ha
  obtain ⟨a, q, b, p, rfl, ho, hb8⟩ := ha
  have HBV : Hid (Below v7.heap.size v7 v8) := hb8
  have HO : Hid (OwnRing v8 v7.heap.size a (r.rl + 1) q b r.cl p ((r.recs ++ [recText 1 ((k : Int) + 1) d]).map Value.string) (curCells r.curs)) := ho
  have HS8 : Hid (T2 w v8 (fabO (some ⟨rb, roff, none⟩) rl rc ea 4 ec (some ⟨tb, toff, none⟩) tl tc now) (outO none 0 0 none 0 0 none 0 0 0 0 0)) := HS7.out.under hb8
  have HB7 : Hid (Below w.heap.size w v7) := HS7.out.below
  have u0 := cell_below q0 hb8
  have u1 := cell_below q1 hb8
  have u2 := cell_below q2 hb8
  have u3 := cell_below q3 hb8
  clear ho hb8 HS7 HR7 HPUT HPR c0 q0 q1 q2 q3
  have HS9 : Hid (T2 w (v8.alloc (Obj.cells #[.int .i64 r.cap, .int .i64 r.first, .slice a (r.rl + 1) q, .slice b r.cl p, .int .i64 0, .int .i64 0, .string ⟨#[]⟩, .int .i64 0] 67 (0, 0))) (fabO (some ⟨rb, roff, none⟩) rl rc ea 4 ec (some ⟨tb, toff, none⟩) tl tc now) (outO none 0 0 none 0 0 none 0 0 0 0 0)) := HS8.out.under (fbelow_new _ _)
  have HY : Hid ((v8.alloc (Obj.cells #[.int .i64 r.cap, .int .i64 r.first, .slice a (r.rl + 1) q, .slice b r.cl p, .int .i64 0, .int .i64 0, .string ⟨#[]⟩, .int .i64 0] 67 (0, 0))).heap[v8.heap.size]? = some (pOutO r.cap r.first a (r.rl + 1) q b r.cl p)) := heap_alloc_new _ _
  have HB9 : Hid (Below v8.heap.size v8 (v8.alloc (Obj.cells #[.int .i64 r.cap, .int .i64 r.first, .slice a (r.rl + 1) q, .slice b r.cl p, .int .i64 0, .int .i64 0, .string ⟨#[]⟩, .int .i64 0] 67 (0, 0)))) := fbelow_new _ _
  have c9 := fun o => HS9.out.cell0 o
  go_wp2_with fail
  try clear c0
  try clear c9
  try clear u0 u1 u2 u3
  obtain ⟨U9, hU9⟩ : ∃ U, v8.alloc (Obj.cells #[.int .i64 r.cap, .int .i64 r.first, .slice a (r.rl + 1) q, .slice b r.cl p, .int .i64 0, .int .i64 0, .string ⟨#[]⟩, .int .i64 0] 67 (0, 0)) = U := ⟨_, rfl⟩
  rw [hU9] at HS9 HY HB9 ⊢
  have HOW : Hid (RD.own (⟨r.cap, r.first, a, r.rl + 1, q, b, r.cl, p, (r.recs ++ [recText 1 ((k : Int) + 1) d]), r.curs⟩ : RD) U9 w.heap.size) := ⟨own_base (own_below HO.out.1 HB9.out) HB7.out.size, own_base (own_below HO.out.2 HB9.out) HB7.out.size⟩
  obtain ⟨Y, hYY⟩ : ∃ Y, v8.heap.size = Y := ⟨_, rfl⟩
  rw [hYY] at HY ⊢
  clear hU9 HO HS8 HB9 hYY
  refine (spec_fcopy (some ⟨rb, roff, none⟩) rl rc ea 4 ec (some ⟨tb, toff, none⟩) tl tc now rs es ts _ (HI.out.below HS9.out.below) HEN.out).mono ?_
  rintro x v10 ⟨D, rfl, hod, hdr, hde, hdt, hdrl, hdel, hdtl, hb3⟩
  have K3 : Hid (OB w (v10.alloc (fabO D.ra D.rl D.rc D.ea D.el D.ec D.ta D.tl D.tc now)) (fabO (some ⟨rb, roff, none⟩) rl rc ea 4 ec (some ⟨tb, toff, none⟩) tl tc now) v10.heap.size now D) := ob_new HS9.out.below ⟨_, rfl⟩ HS9.out.b0 HS9.out.b1 hb3 hod
  have HB3 : Hid (Below U9.heap.size U9 (v10.alloc (fabO D.ra D.rl D.rc D.ea D.el D.ec D.ta D.tl D.tc now))) := below_tr hb3 (fbelow_new _ _)
  have HOD : Hid (D.own v10 U9.heap.size) := hod
  have HDS : Hid (D.rs.map RD.strip = rs.map RD.strip ∧ D.es = es ∧ D.ts.map TD.strip = ts.map TD.strip) := ⟨hdr, hde, hdt⟩
  have HDL : Hid (D.rl = rl ∧ D.tl = tl) := ⟨hdrl, hdtl⟩
  clear hod hdr hde hdt hdrl hdel hdtl hb3
  have HY3 : Hid ((v10.alloc (fabO D.ra D.rl D.rc D.ea D.el D.ec D.ta D.tl D.tc now)).heap[Y]? = some (pOutO r.cap r.first a (r.rl + 1) q b r.cl p)) := (HB3.out.block _ (fb_lt HY.out)).trans HY.out
  have HN3 : Hid (RD.own (⟨r.cap, r.first, a, r.rl + 1, q, b, r.cl, p, (r.recs ++ [recText 1 ((k : Int) + 1) d]), r.curs⟩ : RD) (v10.alloc (fabO D.ra D.rl D.rc D.ea D.el D.ec D.ta D.tl D.tc now)) w.heap.size) := ⟨own_below HOW.out.1 HB3.out, own_below HOW.out.2 HB3.out⟩
  have HND : Hid (∀ y ∈ RD.blks (⟨r.cap, r.first, a, r.rl + 1, q, b, r.cl, p, (r.recs ++ [recText 1 ((k : Int) + 1) d]), r.curs⟩ : RD), y ∉ fabBlks D.rs D.ts D.ea) := fun y hy hf => by
    have h1 := (RD.own.lt HOW.out hy).2
    have h2 := (OwnFab.lt HOD.out hf).1
    omega
  obtain ⟨Z, hZ⟩ : ∃ Z, v10.heap.size = Z := ⟨_, rfl⟩
  rw [hZ] at K3
  obtain ⟨r0, hr0, hrs0⟩ := strip_some HDS.out.1 HRG.out
  obtain ⟨rb2, hra2⟩ := own_nform K3.out.own.r (by have := HDL.out.1; omega)
  have HR0 : Hid (D.rs[G]? = some r0) := hr0
  have HRA : Hid (D.ra = some ⟨rb2, 0, none⟩) := hra2
  have hgd : (G : Int) < (D.rl : Int) := by have := HDL.out.1; omega
  have hgl3 : G < D.rs.length := (List.getElem?_eq_some_iff.1 hr0).1
  have hrow := (fun (x : Option Addr) (hx : D.ra = x) => (by cases hx; exact K3.out.own.r : World.ownsRow (v10.alloc (fabO D.ra D.rl D.rc D.ea D.el D.ec D.ta D.tl D.tc now)) _ _ _ (.slice x D.rl D.rc) _ _)) _ hra2
  have hcr : ∀ j, j < 4 → (v10.alloc (fabO D.ra D.rl D.rc D.ea D.el D.ec D.ta D.tl D.tc now)).cell? ⟨rb2, G * 4 + j, none⟩ = r0.cells[j]? := fun j hj => by
    rw [hrow.cellAt (G * 4 + j) (by omega), rdCells_at D.rs G j hgl3 hj, (List.getElem?_eq_some_iff.1 hr0).2]
  have k0 : (v10.alloc (fabO D.ra D.rl D.rc D.ea D.el D.ec D.ta D.tl D.tc now)).cell? ⟨rb2, G * 4, none⟩ = some (.int .i64 r0.cap) := by rw [← Nat.add_zero (G * 4)]; exact hcr 0 (by omega)
  have k1 : (v10.alloc (fabO D.ra D.rl D.rc D.ea D.el D.ec D.ta D.tl D.tc now)).cell? ⟨rb2, G * 4 + 1, none⟩ = some (.int .i64 r0.first) := hcr 1 (by omega)
  have k2 : (v10.alloc (fabO D.ra D.rl D.rc D.ea D.el D.ec D.ta D.tl D.tc now)).cell? ⟨rb2, G * 4 + 2, none⟩ = some (.slice r0.ra r0.rl r0.rc) := hcr 2 (by omega)
  have k3 : (v10.alloc (fabO D.ra D.rl D.rc D.ea D.el D.ec D.ta D.tl D.tc now)).cell? ⟨rb2, G * 4 + 3, none⟩ = some (.slice r0.ca r0.cl r0.cc) := hcr 3 (by omega)
  have hfz := fun j => hrow.frozenAt j
  have hYr : some Y ≠ some rb2 := fun e => own_ne hrow HY3.out (by decide) (by rw [e]; rfl)
  have cz : ∀ o, (v10.alloc (fabO D.ra D.rl D.rc D.ea D.el D.ec D.ta D.tl D.tc now)).cell? ⟨Z, o, none⟩ = (#[.slice (some ⟨rb2, 0, none⟩) D.rl D.rc, .slice D.ea D.el D.ec, .slice D.ta D.tl D.tc, .int .i64 now] : Array Value)[o]? := fun o => by rw [fb_cell K3.out.z o, hra2]
  have cy := fun o => fb_cell HY3.out o
  clear hr0 hrs0 hra2 hgl3 hrow hcr HOW HOD
  go_upto_region 21 with fail
  obtain ⟨W4, hW4⟩ : ∃ W, set4 (v10.alloc (fabO D.ra D.rl D.rc D.ea D.el D.ec D.ta D.tl D.tc now)) rb2 (G * 4) (.int .i64 r.cap) (.int .i64 r.first) (.slice a (r.rl + 1) q) (.slice b r.cl p) = W := ⟨_, rfl⟩
  have K4 : Hid (OB w W4 (fabO (some ⟨rb, roff, none⟩) rl rc ea 4 ec (some ⟨tb, toff, none⟩) tl tc now) Z now (D.setR G (⟨r.cap, r.first, a, r.rl + 1, q, b, r.cl, p, (r.recs ++ [recText 1 ((k : Int) + 1) d]), r.curs⟩ : RD))) := hW4 ▸ K3.out.putR2 HRA.out HR0.out HN3.out HND.out
  rw [show ((((v10.alloc (fabO D.ra D.rl D.rc D.ea D.el D.ec D.ta D.tl D.tc now)).setCell ⟨rb2, G * 4, none⟩ (.int .i64 r.cap)).setCell ⟨rb2, G * 4 + 1, none⟩ (.int .i64 r.first)).setCell ⟨rb2, G * 4 + 2, none⟩ (.slice a (r.rl + 1) q)).setCell ⟨rb2, G * 4 + 3, none⟩ (.slice b r.cl p) = W4 from hW4]
  clear hZ hW4 k0 k1 k2 k3 hfz hYr cz cy K3 HB3 HY3 HN3 HND HY HR0 HRA
  obtain ⟨tb2, t0, hta, ht0, hst, htf⟩ := K4.out.txn (show ((D.setR G (⟨r.cap, r.first, a, r.rl + 1, q, b, r.cl, p, (r.recs ++ [recText 1 ((k : Int) + 1) d]), r.curs⟩ : RD))).ts.map TD.strip = ts.map TD.strip from HDS.out.2.2) HTK.out HF4.out
  have HFT : Hid (TFit W4 t0) := htf
  have HT0 : Hid (((D.setR G (⟨r.cap, r.first, a, r.rl + 1, q, b, r.cl, p, (r.recs ++ [recText 1 ((k : Int) + 1) d]), r.curs⟩ : RD))).ts[k]? = some t0) := ht0
  have HTA2 : Hid (((D.setR G (⟨r.cap, r.first, a, r.rl + 1, q, b, r.cl, p, (r.recs ++ [recText 1 ((k : Int) + 1) d]), r.curs⟩ : RD))).ta = some ⟨tb2, 0, none⟩) := hta
  have HST : Hid (t0.strip = t.strip) := hst
  obtain ⟨_, h0, h1, h2, h3, h4, h5⟩ := K4.out.tcell hta ht0
  have hkdi : (k : Int) < (D.tl : Int) := by have := HDL.out.2; omega
  have hwk0 : IntKind.i64.wrap (k : Int) = (k : Int) := twrap_in _ (by omega) (by omega)
  have hwk1 : IntKind.i64.wrap ((k : Int) + 1 - 1) = (k : Int) := by rw [show (k : Int) + 1 - 1 = k by omega]; exact hwk0
  clear ht0 hst htf hta
  obtain ⟨p1, e1, s1, u1, ra2, rl2, rc2, la2, ll2, lc2, rs2, ls2⟩ := t0
  simp only at h0 h1 h2 h3 h4 h5
  have hfz := fun j => (show World.ownsRow _ _ _ _ (.slice (some ⟨tb2, 0, none⟩) D.tl D.tc) _ _ from by have h := K4.out.own.t; rw [HTA2.out] at h; exact h).frozenAt j
  have cz : ∀ o, W4.cell? ⟨Z, o, none⟩ = (#[.slice D.ra D.rl D.rc, .slice D.ea D.el D.ec, .slice (some ⟨tb2, 0, none⟩) D.tl D.tc, .int .i64 now] : Array Value)[o]? := fun o => (fb_cell K4.out.z o).trans (by show (#[.slice D.ra D.rl D.rc, .slice D.ea D.el D.ec, .slice D.ta D.tl D.tc, .int .i64 now] : Array Value)[o]? = _; rw [show D.ta = some ⟨tb2, 0, none⟩ from HTA2.out])
  go_cut [] (fun wd => ∃ a4 q4 b4 m4, Hid (OB w wd (fabO (some ⟨rb, roff, none⟩) rl rc ea 4 ec (some ⟨tb, toff, none⟩) tl tc now) Z now (((D.setR G (⟨r.cap, r.first, a, r.rl + 1, q, b, r.cl, p, (r.recs ++ [recText 1 ((k : Int) + 1) d]), r.curs⟩ : RD))).setT k ⟨p1, e1, s1, u1, a4, (insN (G : Int) rs2).length, q4, b4, ls2.length, m4, insN (G : Int) rs2, ls2⟩)))
  case first =>
    go_region_with (first | (go_at_call 38; refine (spec_ttouch (p := p1) (e := e1) (s := s1) (u := u1) (ra := ra2) (rl := rl2) (rc := rc2) (la := la2) (ll := ll2) (lc := lc2) (G : Int) rs2 ls2 _ ⟨HFT.out.r.below ((Below.refl _ _).drew), HFT.out.l.below ((Below.refl _ _).drew), HFT.out.rle, HFT.out.lle, HFT.out.rcm, HFT.out.lcm⟩).mono ?_; rintro x v11 ⟨a4, q4, b4, m4, rfl, ho4, hb4⟩; have hb4' := below_tr ((Below.refl _ _).drew) hb4; have K5 : Hid (OB w v11 (fabO (some ⟨rb, roff, none⟩) rl rc ea 4 ec (some ⟨tb, toff, none⟩) tl tc now) Z now (D.setR G (⟨r.cap, r.first, a, r.rl + 1, q, b, r.cl, p, (r.recs ++ [recText 1 ((k : Int) + 1) d]), r.curs⟩ : RD))) := K4.out.under hb4'; have HO4 : Hid (TD.own ⟨p1, e1, s1, u1, a4, (insN (G : Int) rs2).length, q4, b4, ls2.length, m4, insN (G : Int) rs2, ls2⟩ v11 W4.heap.size) := ho4; have HB4 : Hid (Below W4.heap.size W4 v11) := hb4'; have cz4 : ∀ o, v11.cell? ⟨Z, o, none⟩ = _ := fun o => (hb4'.cell (p := ⟨Z, o, none⟩) (fb_lt K4.out.z)).trans (cz o); obtain ⟨_, k0, k1, k2, k3, k4, k5⟩ := K5.out.tcell HTA2.out HT0.out; have fz4 := fun j => (show World.ownsRow _ _ _ _ (.slice (some ⟨tb2, 0, none⟩) D.tl D.tc) _ _ from (by have h := K5.out.own.t; rw [HTA2.out] at h; exact h)).frozenAt j; simp only at k0 k1 k2 k3 k4 k5; clear hb4 hb4' ho4))
    all_goals (go_wp2_with fail; have HQ := K4.out.putT HB4.out HTA2.out HT0.out HO4.out; go_meet; exact ⟨_, _, _, _, HQ⟩)
  case rest =>
  obtain ⟨a4, q4, b4, m4, K6⟩ := hcut
  clear h0 h1 h2 h3 h4 h5 hfz cz K4
  have HTL : Hid (touchL t.p t.e t.s t.u t.rs t.ls (G : Int) = insN (G : Int) t.rs) := show _ = _ from if_pos (by
    have h1 := right_txnR HR.out (List.mem_of_getElem? HTK.out)
    have h2 := (right_sizes HR.out).2.1
    have h3 := HI.out.rs.1
    have h4 : rnum (G : Int) = true := decide_eq_true (by have := hgl; omega)
    unfold tnOpenB
    rw [h1, h4, HT1.out]
    rfl)
  have HSM : Hid (((D.setR G (⟨r.cap, r.first, a, r.rl + 1, q, b, r.cl, p, (r.recs ++ [recText 1 ((k : Int) + 1) d]), r.curs⟩ : RD)).setT k ⟨p1, e1, s1, u1, a4, (insN (G : Int) rs2).length, q4, b4, ls2.length, m4, insN (G : Int) rs2, ls2⟩).same T) := by
    have hts := HST.out
    simp only [TD.strip, TD.mk.injEq] at hts
    obtain ⟨e0, e1, e2, e3, _, _, _, _, _, _, e4, e5⟩ := hts
    refine ⟨?_, ?_, ?_⟩
    · rw [HTE.out]
      show (D.rs.set G _).map RD.strip = (rs.set G _).map RD.strip
      rw [List.map_set, List.map_set, HDS.out.1]
      rfl
    · rw [HTE.out]
      exact HDS.out.2.1
    · rw [HTE.out]
      show (D.ts.set k _).map TD.strip = (ts.set k _).map TD.strip
      rw [List.map_set, List.map_set, HDS.out.2.2]
      simp only [touchT, TD.strip, HTL.out, e0, e1, e2, e3, e4, e5]
  have HTN : Hid (T.now = now ∧ T.n = r.first + (r.rl : Int) ∧ T.c = 0) := ⟨by rw [HTE.out], by rw [HTE.out]; show r.first + (r.recs.length : Int) = _; rw [HRN.out], by rw [HTE.out]⟩
  have c0 := fun o => fb_cell K6.out.b0 o
  have cz : ∀ o, wc.cell? ⟨Z, o, none⟩ = (#[.slice D.ra D.rl D.rc, .slice D.ea D.el D.ec, .slice D.ta D.tl D.tc, .int .i64 now] : Array Value)[o]? := fun o => fb_cell K6.out.z o
  have cy := fun o => fb_cell K6.out.y o
  have fy := fun o => unfrozen_of_block0 K6.out.y o
  obtain ⟨_, _, r2, e0, e1, q0, q1, q2, q3, _⟩ := rngsG_at keeps_fit HI.out.rs K6.out.bel hgl
  cases e0
  obtain rfl := Option.some.inj (HRG.out.symm.trans e1)
  clear e1
  go_upto_region 22 with fail
  go_region_with (first | (go_at_call 35; refine (spec_end _ _ _ _ _ _ _ _ _ HFB.out.1 hrle).mono ?_; rintro x v12 ⟨rfl, hb12⟩; have hb12' := below_tr ((Below.refl _ _).drew) hb12; have K7 : Hid (OB w v12 (fabO (some ⟨rb, roff, none⟩) rl rc ea 4 ec (some ⟨tb, toff, none⟩) tl tc now) Z now ((D.setR G (⟨r.cap, r.first, a, r.rl + 1, q, b, r.cl, p, (r.recs ++ [recText 1 ((k : Int) + 1) d]), r.curs⟩ : RD)).setT k ⟨p1, e1, s1, u1, a4, (insN (G : Int) rs2).length, q4, b4, ls2.length, m4, insN (G : Int) rs2, ls2⟩)) := K6.out.under hb12'; have cz7 : ∀ o, v12.cell? ⟨Z, o, none⟩ = _ := fun o => (hb12'.cell (p := ⟨Z, o, none⟩) (fb_lt K6.out.z)).trans (cz o); have cy7 := fun o => fb_cell K7.out.y o; have fy7 := fun o => unfrozen_of_block0 K7.out.y o; clear hb12 hb12'))
  all_goals (have HFIN : Hid _ := K7.out.fin HSM.out HTN.out; go_wp2; exact bodyPost_ret (v := outV D.ra D.rl D.rc D.ea D.el D.ec D.ta D.tl D.tc now (r.first + (r.rl : Int)) 0) (by simp [results, Tryz.results8, go_sem, cy7]) rfl HFIN.out)
end Go.Proofs.YtahccighonddaaaGreatDoor
namespace Go.Proofs.YtahccighonddaaaGreatDoor
open Go.RowKit Go.Maps
attribute [local go_sem ↓] Go.wp_at_zero Go.wp_at_succ
set_option linter.unusedSimpArgs false
set_option linter.unusedVariables false
variable {aN aF aR aS aM aL : Addr}
set_option maxRecDepth 100000 in
set_option maxHeartbeats 2000000 in
theorem impl_neededBy {lo B M : Nat} {ta : Option Addr} {tl tc : Nat} {ra : Option Addr} {rl rc : Nat} {ea : Option Addr} {el ec : Nat} {now began puts : Int} {ts : List TD} {rs : List RD} {es : List Int} {m : Nat} {D : DataW Unit} (k : Nat) (t : TD) (g : Int) (w : World)
    (h : WK lo w B M ta tl tc ra rl rc ea el ec now began puts ts rs es m D) (hk : ts[k]? = some t) (htl : tl ≤ 12) (hU : ∀ t ∈ ts, upB t.rs = true ∧ upB t.ls = true) :
    Calls Tryz.prog 95 #[.pointer (some ⟨B, 0, none⟩), .int .i64 (k : Int), .int .i64 g] w fun x w' => x = .returned (.int .i64 (needN ts t g : Nat)) ∧ Below w.heap.size w w' := by
  have hkl : k < tl := by rw [← h.txs.1]; exact (List.getElem?_eq_some_iff.1 hk).1
  have HK : Hid (WK lo w B M ta tl tc ra rl rc ea el ec now began puts ts rs es m D) := h
  have HU : Hid (∀ t ∈ ts, upB t.rs = true ∧ upB t.ls = true) := hU
  have HT : Hid (ts[k]? = some t) := hk
  have hki : (k : Int) < (tl : Int) := by omega
  have hlen : owedN ts g ≤ 12 := by have h1 := owedN_le ts g; have h2 := h.txs.1; omega
  have hfd := find_has (hU t (List.mem_of_getElem? hk)).1 g
  have HFD : Hid (touchB t.rs g = hasB t.rs g) := hfd
  clear h hk hU hfd
  obtain ⟨b, off, t1, e0, e1, g0, g1, g2, g3, g4, g5, hf⟩ := txsG_at keeps_tfit HK.out.txs (Below.refl _ _) hkl
  obtain rfl := Option.some.inj (HT.out.symm.trans e1)
  have hta := e0
  subst hta
  have HF : Hid (TFit w t) := hf.out
  clear e1 hf
  have cb := fun o => fb_cell HK.out.b o
  obtain ⟨O, hO⟩ : ∃ O, owedN ts g = O := ⟨_, rfl⟩
  have HO : Hid (owedN ts g = O) := hO
  rw [hO] at hlen
  have hw1 : IntKind.i64.wrap ((O : Int) + 1) = (O : Int) + 1 := twrap_in _ (by omega) (by omega)
  have hw2 : IntKind.i64.wrap ((O : Int) + 2) = (O : Int) + 2 := twrap_in _ (by omega) (by omega)
  clear hO
  go_enter Tryz.func95, Tryz.ntmps95
  go_wp2_with fail
  refine (impl_touchedBy w).mono ?_
  rintro e v4 ⟨rfl, rfl⟩
  have HB4 : Hid ((w.alloc t.obj).heap[w.heap.size]? = some t.obj) := heap_alloc_new _ _
  have HF4 : Hid (TFit (w.alloc t.obj) t) := HF.out.below (fbelow_new _ _)
  have HK4 : Hid (WK lo (w.alloc t.obj) B M (some ⟨b, off, none⟩) tl tc ra rl rc ea el ec now began puts ts rs es m D) := HK.out.under (fbelow_new _ _)
  have HBL : Hid (Below w.heap.size w (w.alloc t.obj)) := fbelow_new _ _
  go_wp2_with fail
  refine (impl_touched w.heap.size g t.rs (w.alloc t.obj) HB4.out HF4.out.r.nums HF4.out.rle).mono ?_
  rintro e v5 ⟨rfl, hv5⟩
  rw [hv5, HFD.out]
  clear hv5 v5 HFD g0 g1 g2 g3 g4 g5 cb
  have cb := fun o => fb_cell HK4.out.b o
  cases h3 : hasB t.rs g with
  | true =>
    have HN : Hid (needN ts t g = O + 1) := show _ = _ by unfold needN; rw [h3, HO.out]; rfl
    clear h3
    go_wp2_with fail
    refine (impl_owed g ts _ HK4.out.b HK4.out.txs (by omega) HU.out).mono ?_
    rintro x v ⟨rfl, hb⟩
    rw [HO.out]
    have HB : Hid (Below w.heap.size w v) := below_tr HBL.out hb
    clear hb
    go_wp2
    go_ret
    exact ⟨ret_int (by rw [HN.out]; simp), HB.out⟩
  | false =>
    have HN : Hid (needN ts t g = O + 2) := show _ = _ by unfold needN; rw [h3, HO.out]; rfl
    clear h3
    go_wp2_with fail
    refine (impl_owed g ts _ HK4.out.b HK4.out.txs (by omega) HU.out).mono ?_
    rintro x v ⟨rfl, hb⟩
    rw [HO.out]
    have HB : Hid (Below w.heap.size w v) := below_tr HBL.out hb
    clear hb
    go_wp2
    go_ret
    exact ⟨ret_int (by rw [HN.out]; simp), HB.out⟩
set_option maxRecDepth 100000 in
set_option maxHeartbeats 2000000 in
theorem impl_senderOn {lo B M : Nat} {ta : Option Addr} {tl tc : Nat} {ra : Option Addr} {rl rc : Nat} {ea : Option Addr} {ec : Nat} {now began puts : Int} {ts : List TD} {rs : List RD} {es : List Int} (p e g : Int) (w : World)
    (h : WK lo w B M ta tl tc ra rl rc ea 4 ec now began puts ts rs es tl (openD ts tl)) (hE : Errs aN aF aR aS aM aL w) (ho : openB ts = true) (hp : -9223372036854775808 ≤ p ∧ p ≤ 9223372036854775807) (hrl : rl ≤ 4) :
    Calls Tryz.prog 45 #[.pointer (some ⟨B, 0, none⟩), .int .i64 p, .int .i64 e, .int .i64 g] w fun x w' => ((heardC es p e ≠ 0 → x = .returned (.tuple #[.int .i64 0, heardV aN aF (heardC es p e)])) ∧
      (heardC es p e = 0 → ¬ (0 ≤ g ∧ g < (rs.length : Int)) → x = .returned (.tuple #[.int .i64 0, errV aR])) ∧
      (heardC es p e = 0 → (0 ≤ g ∧ g < (rs.length : Int)) → (openOf ts p = 0 → x = .returned (.tuple #[.int .i64 0, errV aS])) ∧ ∀ k, openOf ts p = k + 1 → x = .returned (.tuple #[.int .i64 (k : Int), .nilIface]))) ∧ Below w.heap.size w w' := by
  have HK : Hid (WK lo w B M ta tl tc ra rl rc ea 4 ec now began puts ts rs es tl (openD ts tl)) := h
  have HE : Hid (Errs aN aF aR aS aM aL w) := hE
  have HO : Hid (openB ts = true) := ho
  have HP : Hid (-9223372036854775808 ≤ p ∧ p ≤ 9223372036854775807) := hp
  have hrn : rs.length = rl := h.rngs.1
  have cR := hE.r.cell
  clear h hE ho hp
  go_enter Tryz.func45, Tryz.ntmps45
  go_wp2_with fail
  refine (impl_heard es p e _ HK.out.b HK.out.nums HE.out).mono ?_
  rintro x v ⟨rfl, hv⟩
  rw [hv]
  clear hv v
  obtain ⟨c, hc⟩ : ∃ c, heardC es p e = c := ⟨_, rfl⟩
  have HC : Hid (heardC es p e = c) := hc
  by_cases h0 : c = 0
  case neg =>
    obtain ⟨a, ha1, ha2⟩ := why_heard (aN := aN) (aF := aF) (aR := aR) (aS := aS) (aM := aM) (aL := aL) (es := es) (p := p) (e := e) (by rw [hc]; exact h0)
    have HA : Hid (heardV aN aF (heardC es p e) = errV a) := ha1
    have HZ : Hid (heardC es p e ≠ 0) := by rw [hc]; exact h0
    rw [ha1]
    clear ha1 ha2 hc h0
    go_wp2
    exact bodyPost_ret (v := .tuple #[.int .i64 0, errV a]) (by simp [results, Tryz.results45, go_sem]) rfl ⟨⟨(fun _ => by rw [HA.out]), (fun h => absurd h HZ.out), (fun h => absurd h HZ.out)⟩, Below.refl _ _⟩
  case pos =>
  have hhv : heardV aN aF (heardC es p e) = .nilIface := by rw [hc, h0]; rfl
  have HZ : Hid (heardC es p e = 0) := by rw [hc]; exact h0
  rw [hhv]
  clear hc h0 hhv HC
  go_wp2_with fail
  refine (impl_hasRing g _ HK.out.b (by omega)).mono ?_
  rintro x v ⟨rfl, hv⟩
  rw [hv]
  clear hv v
  by_cases hg : 0 ≤ g ∧ g < (rl : Int)
  case neg =>
    have hd : decide (0 ≤ g ∧ g < (rl : Int)) = false := decide_eq_false hg
    have HG : Hid (¬ (0 ≤ g ∧ g < (rs.length : Int))) := by rw [hrn]; exact hg
    rw [hd]
    clear hd hg hrn
    go_wp2
    go_quiet (first | (fail))
    go_wp2
    exact bodyPost_ret (v := .tuple #[.int .i64 0, errV aR]) (by simp [results, Tryz.results45, go_sem]) rfl ⟨⟨(fun h => absurd HZ.out h), (fun _ _ => rfl), (fun _ h => absurd h HG.out)⟩, tbelow_dn (Below.refl _ _) _⟩
  case pos =>
    have hd : decide (0 ≤ g ∧ g < (rl : Int)) = true := decide_eq_true hg
    have HG : Hid (0 ≤ g ∧ g < (rs.length : Int)) := by rw [hrn]; exact hg
    rw [hd]
    clear hd hg hrn
    go_wp2_with fail
    refine (impl_openN p _ HK.out HO.out HP.out HE.out).mono ?_
    rintro x v2 ⟨⟨hy1, hy2⟩, hb2⟩
    have HB : Hid (Below w.heap.size w v2) := hb2
    clear hb2
    cases hN : openOf ts p with
    | zero =>
      obtain rfl := hy1 hN
      have HN : Hid (openOf ts p = 0) := hN
      clear hy1 hy2 hN
      go_wp2
      exact bodyPost_ret (v := .tuple #[.int .i64 0, errV aS]) (by simp [results, Tryz.results45, go_sem]) rfl ⟨⟨(fun h => absurd HZ.out h), (fun _ h => absurd HG.out h), (fun _ _ => ⟨fun _ => rfl, (fun k h => by rw [HN.out] at h; cases h)⟩)⟩, HB.out⟩
    | succ j =>
      obtain rfl := hy2 j hN
      have HN : Hid (openOf ts p = j + 1) := hN
      clear hy1 hy2 hN
      go_wp2
      exact bodyPost_ret (v := .tuple #[.int .i64 (j : Int), .nilIface]) (by simp [results, Tryz.results45, go_sem]) rfl ⟨⟨(fun h => absurd HZ.out h), (fun _ h => absurd HG.out h), (fun _ _ => ⟨(fun h => by rw [HN.out] at h; cases h), (fun k h => by rw [HN.out] at h; cases h; rfl)⟩)⟩, HB.out⟩
end Go.Proofs.YtahccighonddaaaGreatDoor
namespace Go.Proofs.YtahccighonddaaaGreatDoor
open Go.RowKit Go.Maps
attribute [local go_sem ↓] Go.wp_at_zero Go.wp_at_succ
set_option linter.unusedSimpArgs false
set_option linter.unusedVariables false
variable {aN aF aR aS aM aL : Addr}
theorem up_len {l : List Int} (h : upB l = true) (hn : ∀ y ∈ l, 0 ≤ y ∧ y ≤ 3) : l.length ≤ 4 := by
  by_cases hl : 4 < l.length
  · have h0 := hn _ (List.getElem_mem (show 0 < l.length by omega))
    have h4 := hn _ (List.getElem_mem hl)
    have h1 := up_at h (show 0 < 1 by omega) (show 1 < l.length by omega)
    have h2 := up_at h (show 1 < 2 by omega) (show 2 < l.length by omega)
    have h3 := up_at h (show 2 < 3 by omega) (show 3 < l.length by omega)
    have h5 := up_at h (show 3 < 4 by omega) hl
    omega
  · omega
theorem touch_len {p e s u : Int} {rs ls : List Int} {g : Int} : (touchL p e s u rs ls g).length ≤ rs.length + 1 := by
  unfold touchL insN
  split
  · split
    · omega
    · rw [List.length_append, List.length_cons, List.length_take, List.length_drop]; omega
  · omega
set_option maxRecDepth 100000 in
set_option maxHeartbeats 4000000 in
theorem impl_send {lo B M : Nat} {ta : Option Addr} {tl tc : Nat} {ra : Option Addr} {rl rc : Nat} {ea : Option Addr} {ec : Nat} {now : Int} {ts : List TD} {rs : List RD} {es : List Int} (k G : Nat) (t : TD) (r : RD) (d : ByteArray) (w : World)
    (h : WK lo w B M ta tl tc ra rl rc ea 4 ec now (endSum rs) 0 ts rs es tl (openD ts tl)) (hU : utabs w) (hE : Errs aN aF aR aS aM aL w) (hR : fabRightB rs es ts now = true) (hk : ts[k]? = some t) (hr : rs[G]? = some r) (hd : d.size ≤ 16) :
    Calls Tryz.prog 46 #[.pointer (some ⟨B, 0, none⟩), .int .i64 (k : Int), .int .i64 (G : Int), .string d] w fun x w' => Below lo w w' ∧ (roomB r (needN ts t (G : Int)) = false → x = .returned (.tuple #[.int .i64 0, errV aM])) ∧
      (roomB r (needN ts t (G : Int)) = true → WorkOk lo B (endSum rs) ⟨rs.set G (dataRec r k d), es, ts.set k (touchT t (G : Int)), now, r.first + (r.recs.length : Int)⟩ x w') := by
  have HK : Hid (WK lo w B M ta tl tc ra rl rc ea 4 ec now (endSum rs) 0 ts rs es tl (openD ts tl)) := h
  have HU : Hid (utabs w) := hU
  have HR : Hid (fabRightB rs es ts now = true) := hR
  have htl : tl ≤ 12 := by have := (right_sizes hR).2.2.2; have := h.txs.1; omega
  have hrl : rl ≤ 4 := by have := (right_sizes hR).2.1; have := h.rngs.1; omega
  have HLO : Hid (lo ≤ w.heap.size) := Nat.le_of_lt (Nat.lt_of_le_of_lt h.lb (fb_lt h.b))
  have HT : Hid (ts[k]? = some t) := hk
  have HRG : Hid (rs[G]? = some r) := hr
  have HD : Hid (d.size ≤ 16) := hd
  have hkl : k < tl := by rw [← h.txs.1]; exact (List.getElem?_eq_some_iff.1 hk).1
  have hrf := right_first (fit_right (right_ring hR hr))
  have hrfit := h.fr r (List.mem_of_getElem? hr)
  have hrn : r.recs.length = r.rl := hrfit.str.strs.1
  have HRF : Hid ((0 ≤ r.first ∧ r.first ≤ 1000000) ∧ r.rl ≤ 1000 ∧ r.cl ≤ 1000 ∧ (∀ s ∈ r.recs, s.size ≤ 1048576) ∧ (4 ≤ r.cap ∧ r.cap ≤ 16) ∧ r.recs.length = r.rl) := ⟨hrf.1, by have h1 := hrf.2.2.1; have h2 := hrf.2.1.2; omega, by have h1 := hrf.2.2.2.2; have h3 := hrfit.cur.curs.1; omega, hrfit.sz, hrf.2.1, hrn⟩
  have HUP : Hid (∀ t ∈ ts, upB t.rs = true ∧ upB t.ls = true) := fun t ht => by
    have h3 := right_txnR hR ht
    simp only [txnRightB, Bool.and_eq_true, ringsB] at h3
    exact ⟨h3.1.1.1.2.2, h3.1.1.2.2⟩
  have cM := hE.m.cell
  obtain ⟨N, hN⟩ : ∃ N, needN ts t (G : Int) = N := ⟨_, rfl⟩
  have HN : Hid (needN ts t (G : Int) = N) := hN
  have hN1 : 1 ≤ N ∧ N ≤ 14 := ⟨hN ▸ needN_pos, by have h1 := needN_le (ts := ts) (t := t) (g := (G : Int)); have h2 := h.txs.1; omega⟩
  rw [hN]
  have hki : (k : Int) < (tl : Int) := by omega
  have hrb : roomB r N = (decide ((N : Int) ≤ r.cap - (r.rl : Int)) && decide (r.first + (r.rl : Int) + (N : Int) ≤ 1000000)) := by unfold roomB; rw [hrn]
  have HRB : Hid (roomB r N = (decide ((N : Int) ≤ r.cap - (r.rl : Int)) && decide (r.first + (r.rl : Int) + (N : Int) ≤ 1000000))) := hrb
  clear h hU hE hR hk hr hd hN hrf hrfit hrn hrb
  go_enter Tryz.func46, Tryz.ntmps46
  go_wp2_with fail
  refine (impl_neededBy k t (G : Int) _ HK.out HT.out htl HUP.out).mono ?_
  rintro x v ⟨rfl, hb⟩
  rw [HN.out]
  have HKv : Hid (WK lo v B M ta tl tc ra rl rc ea 4 ec now (endSum rs) 0 ts rs es tl (openD ts tl)) := HK.out.under hb
  have HBv : Hid (Below w.heap.size w v) := hb
  clear hb
  go_wp2_with fail
  refine (impl_fits G r N rs _ HKv.out.b HKv.out.rngs HRG.out (by omega) (by omega) HRF.out.1 (by have := HRF.out.2.2.2.2.1; omega)).mono ?_
  rintro x v2 ⟨rfl, hb2⟩
  rw [← HRB.out]
  have HK2 : Hid (WK lo v2 B M ta tl tc ra rl rc ea 4 ec now (endSum rs) 0 ts rs es tl (openD ts tl)) := HKv.out.under hb2
  have HB2 : Hid (Below w.heap.size w v2) := below_tr HBv.out hb2
  have cM2 := cell_below cM HB2.out
  clear hb2 HKv HBv cM
  cases hroom : roomB r N with
  | false =>
    have HRM : Hid (roomB r N = false) := hroom
    clear hroom
    go_wp2
    go_quiet (first | (fail))
    go_wp2
    exact bodyPost_ret (v := .tuple #[.int .i64 0, errV aM]) (by simp [results, Tryz.results46, go_sem]) rfl ⟨tbelow_dn (HB2.out.mono HLO.out) _, (fun _ => rfl), (fun h => by rw [HRM.out] at h; cases h)⟩
  | true =>
    have HRM : Hid (roomB r N = true) := hroom
    have HPUT : Hid _ := right_send (k := k) HR.out HRG.out (by omega) HD.out hN1.1 hroom
    have HU2 : Hid (utabs v2) := utabs_below HU.out HB2.out
    clear hroom
    go_wp2_with fail
    refine (impl_numberAt (k : Int) _ ⟨by omega, by omega⟩).mono ?_
    rintro x u ⟨rfl, hu⟩
    rw [hu]
    clear hu u
    go_wp2_with fail
    refine (impl_put G r 1 ((k : Int) + 1) d (r.recs ++ [recText 1 ((k : Int) + 1) d]) _ HK2.out HRG.out (by omega) HU2.out (Nat.le_trans HD.out (by unfold maxLen; omega)) HPUT.out HRF.out.1 (by rw [List.length_append, List.length_singleton]) HRF.out.2.1 HRF.out.2.2.1 (fun s hs => ?_) (by omega)).mono ?_
    · rcases List.mem_append.1 hs with hs | hs
      · exact HRF.out.2.2.2.1 s hs
      · rw [List.mem_singleton.1 hs]; have := recText_size 1 ((k : Int) + 1) d; omega
    rintro x v3 ⟨rfl, hb3, r', hr1, hr2, hk3⟩
    have HK3 : Hid (WK lo v3 B M ta tl tc ra rl rc ea 4 ec now (endSum rs) (0 + 1) ts (rs.set G r') es tl (openD ts tl)) := hk3
    have HB3 : Hid (Below lo w v3) := (HB2.out.mono HLO.out).trans hb3
    have HR1 : Hid (r'.strip = ⟨r.cap, r.first, none, 0, 0, none, 0, 0, r.recs ++ [recText 1 ((k : Int) + 1) d], r.curs⟩ ∧ r'.rl = r.rl + 1) := ⟨hr1, hr2⟩
    clear hb3 hr1 hr2 hk3 cM2 HK2 HB2 HU2
    obtain ⟨tb, hta⟩ := own_nform HK3.out.t (by omega)
    subst hta
    have HD3 : Hid (WK lo v3.drew B M (some ⟨tb, 0, none⟩) tl tc ra rl rc ea 4 ec now (endSum rs) (0 + 1) ts (rs.set G r') es tl (openD ts tl)) := HK3.out.under ((Below.refl _ _).drew)
    have HFT : Hid (TFit v3 t) := HK3.out.ft t (List.mem_of_getElem? HT.out)
    have HKL : Hid (k < ts.length) := (List.getElem?_eq_some_iff.1 HT.out).1
    have cb := fun o => fb_cell HD3.out.b o
    obtain ⟨_, _, t1, e0, e1, g0, g1, g2, g3, g4, g5, _⟩ := txsG_at keeps_tfit HD3.out.txs (Below.refl _ _) hkl
    cases e0
    obtain rfl := Option.some.inj (HT.out.symm.trans e1)
    simp only [Nat.zero_add] at g0 g1 g2 g3 g4 g5
    clear e1
    have HTL : Hid ((touchL t.p t.e t.s t.u t.rs t.ls (G : Int)).length ≤ 1048576 ∧ t.ls.length ≤ 1048576) := by
      have h1 := touch_len (p := t.p) (e := t.e) (s := t.s) (u := t.u) (rs := t.rs) (ls := t.ls) (g := (G : Int))
      have h3 := right_txnR HR.out (List.mem_of_getElem? HT.out)
      simp only [txnRightB, Bool.and_eq_true, ringsB, List.all_eq_true] at h3
      have h4 := up_len h3.1.1.1.2.2 (fun y hy => by have := h3.1.1.1.2.1 y hy; unfold rnum at this; simpa using this)
      have h5 := HFT.out.l.nums.1
      have h6 := HFT.out.lle
      exact ⟨by omega, by omega⟩
    go_upto_region 4 with fail
    go_cut [] (fun wc => ∃ t' : TD, Below lo v3 wc ∧ t'.strip = touchT t (G : Int) ∧ Hid (WK lo wc B M (some ⟨tb, 0, none⟩) tl tc ra rl rc ea 4 ec now (endSum rs) (0 + 1) (ts.set k t') (rs.set G r') es tl (openD ts tl)))
    case first =>
      go_region_with (first | (go_at_call 98; refine (impl_txnTouch (p := t.p) (e := t.e) (s := t.s) (u := t.u) (G : Int) t.rs t.ls _ ⟨HFT.out.r.below ((Below.refl _ _).drew), HFT.out.l.below ((Below.refl _ _).drew), HFT.out.rle, HFT.out.lle, HFT.out.rcm, HFT.out.lcm⟩).mono ?_; rintro x v5 ⟨a2, q2, b2, m2, rfl, ho2, hb2⟩; have HK5 : Hid (WK lo v5 B M (some ⟨tb, 0, none⟩) tl tc ra rl rc ea 4 ec now (endSum rs) (0 + 1) ts (rs.set G r') es tl (openD ts tl)) := HD3.out.under hb2; have HO5 : Hid _ := ho2; have HB5 : Hid (Below v3.heap.size v3 v5) := below_tr ((Below.refl _ _).drew) hb2; have cb5 := fun o => fb_cell HK5.out.b o; obtain ⟨_, _, _, e9, _, k0, k1, k2, k3, k4, k5, _⟩ := txsG_at keeps_tfit HK5.out.txs (Below.refl _ _) hkl; cases e9; simp only [Nat.zero_add] at k0 k1 k2 k3 k4 k5; have fz := fun j => HK5.out.t.frozenAt j; clear ho2 hb2))
      all_goals (go_wp2_with fail; go_meet; exact ⟨TD.mk t.p t.e t.s t.u a2 (touchL t.p t.e t.s t.u t.rs t.ls (G : Int)).length q2 b2 t.ls.length m2 (touchL t.p t.e t.s t.u t.rs t.ls (G : Int)) t.ls, (end_put (t' := TD.mk t.p t.e t.s t.u a2 (touchL t.p t.e t.s t.u t.rs t.ls (G : Int)).length q2 b2 t.ls.length m2 (touchL t.p t.e t.s t.u t.rs t.ls (G : Int)) t.ls) HK3.out HK5.out HKL.out HB5.out (Nat.le_refl _) HO5.out HTL.out.1 HTL.out.2 HFT.out.pw).1, rfl, (end_put (t' := TD.mk t.p t.e t.s t.u a2 (touchL t.p t.e t.s t.u t.rs t.ls (G : Int)).length q2 b2 t.ls.length m2 (touchL t.p t.e t.s t.u t.rs t.ls (G : Int)) t.ls) HK3.out HK5.out HKL.out HB5.out (Nat.le_refl _) HO5.out HTL.out.1 HTL.out.2 HFT.out.pw).2⟩)
    case rest =>
    obtain ⟨t', hbl, hst, HG⟩ := hcut
    have HB6 : Hid (Below lo w wc) := HB3.out.trans hbl
    have HST : Hid (t'.strip = touchT t (G : Int)) := hst
    clear hbl hst g0 g1 g2 g3 g4 g5 cb HK3 HD3 HFT
    go_wp2
    refine bodyPost_ret (v := .tuple #[.int .i64 (r.first + (r.rl : Int)), .nilIface]) (by simp [results, Tryz.results46, go_sem]) rfl ⟨HB6.out, (fun h => by rw [HRM.out] at h; cases h), fun _ => ?_⟩
    have hf : r'.first = r.first := by have h := congrArg RD.first HR1.out.1; exact h
    refine ⟨M, _, tl, tc, ra, rl, rc, ea, ec, 0 + 1, ts.set k t', rs.set G r', tl, openD ts tl, by rw [HRF.out.2.2.2.2.2], HG.out, by rw [endSum_set HRG.out hf HR1.out.2]; omega, by omega, hrl, htl, fun q hq => ?_, ?_, ?_⟩
    · rcases List.mem_or_eq_of_mem_set hq with hq | rfl
      · exact right_fin HR.out q hq
      · rw [hf]; exact HRF.out.1
    · show (rs.set G r').map RD.strip = (rs.set G (dataRec r k d)).map RD.strip
      rw [List.map_set, List.map_set, HR1.out.1]
      rfl
    · show (ts.set k t').map TD.strip = (ts.set k (touchT t (G : Int))).map TD.strip
      rw [List.map_set, List.map_set, HST.out]
      rfl
end Go.Proofs.YtahccighonddaaaGreatDoor
namespace Go.Proofs.YtahccighonddaaaGreatDoor
open Go.RowKit Go.Maps
attribute [local go_sem ↓] Go.wp_at_zero Go.wp_at_succ
set_option linter.unusedSimpArgs false
set_option linter.unusedVariables false
variable {aN aF aR aS aM aL : Addr}
set_option maxRecDepth 100000 in
set_option maxHeartbeats 2000000 in
theorem impl_Send1 {lo B M : Nat} {ta : Option Addr} {tl tc : Nat} {ra : Option Addr} {rl rc : Nat} {ea : Option Addr} {ec : Nat} {now : Int} {ts : List TD} {rs : List RD} {es : List Int} (n e g : Int) (d : ByteArray) (pb0 pb1 pb2 pb3 : Nat) (w : World)
    (h : WK lo w B M ta tl tc ra rl rc ea 4 ec now (endSum rs) 0 ts rs es tl (openD ts tl)) (hU : utabs w) (hE : Errs aN aF aR aS aM aL w) (hR : fabRightB rs es ts now = true) (hw_n : -9223372036854775808 ≤ n ∧ n ≤ 9223372036854775807) (hd : d.size ≤ maxLen)
    (hc0 : w.cell? ⟨pb0, 0, none⟩ = some (.string d)) (hc1 : w.cell? ⟨pb1, 0, none⟩ = some (.int .i64 n)) (hc2 : w.cell? ⟨pb2, 0, none⟩ = some (.int .i64 e)) (hc3 : w.cell? ⟨pb3, 0, none⟩ = some (.int .i64 g)) :
    Calls Tryz.prog 43 #[.pointer (some ⟨B, 0, none⟩), .pointer (some ⟨pb0, 0, none⟩), .pointer (some ⟨pb1, 0, none⟩), .pointer (some ⟨pb2, 0, none⟩), .pointer (some ⟨pb3, 0, none⟩)] w fun x w' => Below lo w w' ∧ WorkAns aN aF aR aS aM aL lo B (endSum rs) (sendR rs es ts now n e g d) x w' := by
  have HK : Hid (WK lo w B M ta tl tc ra rl rc ea 4 ec now (endSum rs) 0 ts rs es tl (openD ts tl)) := h
  have HE : Hid (Errs aN aF aR aS aM aL w) := hE
  have HU : Hid (utabs w) := hU
  have HR : Hid (fabRightB rs es ts now = true) := hR
  have hrl : rl ≤ 4 := by have := (right_sizes hR).2.1; have := h.rngs.1; omega
  have HLO : Hid (lo ≤ w.heap.size) := Nat.le_of_lt (Nat.lt_of_le_of_lt h.lb (fb_lt h.b))
  have HN : Hid (-9223372036854775808 ≤ n ∧ n ≤ 9223372036854775807) := hw_n
  have HD : Hid (d.size ≤ maxLen) := hd
  have HC : Hid (w.cell? ⟨pb0, 0, none⟩ = some (.string d) ∧ w.cell? ⟨pb1, 0, none⟩ = some (.int .i64 n) ∧ w.cell? ⟨pb2, 0, none⟩ = some (.int .i64 e) ∧ w.cell? ⟨pb3, 0, none⟩ = some (.int .i64 g)) := ⟨hc0, hc1, hc2, hc3⟩
  clear h hU hE hR hw_n hd
  go_enter Tryz.func43, Tryz.ntmps43
  go_wp2_with fail
  refine (impl_dataFits d 16 _ HD.out (by omega) HU.out).mono ?_
  rintro x v ⟨rfl, hb⟩
  have HKv : Hid (WK lo v B M ta tl tc ra rl rc ea 4 ec now (endSum rs) 0 ts rs es tl (openD ts tl)) := HK.out.under hb
  have HEv : Hid (Errs aN aF aR aS aM aL v) := HE.out.below hb
  have HUv : Hid (utabs v) := utabs_below HU.out hb
  have HBv : Hid (Below w.heap.size w v) := hb
  have d0 := cell_below HC.out.1 hb
  have d1 := cell_below HC.out.2.1 hb
  have d2 := cell_below HC.out.2.2.1 hb
  have d3 := cell_below HC.out.2.2.2 hb
  have cN := HEv.out.n.cell
  clear hb hc0 hc1 hc2 hc3 HK HE HU
  by_cases h16 : d.size ≤ 16
  case neg =>
    have hdd : decide (d.size ≤ 16) = false := decide_eq_false h16
    have HRI : Hid (sendR rs es ts now n e g d = .error 1) := send_size h16
    rw [hdd]
    clear hdd h16
    go_wp2
    go_quiet (first | (fail))
    go_wp2
    refine bodyPost_ret (v := .tuple #[.int .i64 0, errV aN]) (by simp [results, Tryz.results43, go_sem]) rfl ⟨tbelow_dn (HBv.out.mono HLO.out) _, ?_⟩
    rw [HRI.out]
    exact ⟨0, _, _, rfl, fun u hu => why_N u hu⟩
  case pos =>
  have hdd : decide (d.size ≤ 16) = true := decide_eq_true h16
  have H16 : Hid (d.size ≤ 16) := h16
  rw [hdd]
  clear hdd h16
  go_wp2_with fail
  refine (impl_senderOn n e g _ HKv.out HEv.out (right_open HR.out) HN.out hrl).mono ?_
  rintro x v2 ⟨⟨hx1, hx2, hx3⟩, hb2⟩
  have HK2 : Hid (WK lo v2 B M ta tl tc ra rl rc ea 4 ec now (endSum rs) 0 ts rs es tl (openD ts tl)) := HKv.out.under hb2
  have HE2 : Hid (Errs aN aF aR aS aM aL v2) := HEv.out.below hb2
  have HU2 : Hid (utabs v2) := utabs_below HUv.out hb2
  have HB2 : Hid (Below lo w v2) := (below_tr HBv.out hb2).mono HLO.out
  have q0 := cell_below d0 hb2
  have q3 := cell_below d3 hb2
  have hrn : rs.length = rl := HK2.out.rngs.1
  clear hb2 d0 d1 d2 d3 cN HKv HEv HUv HBv
  by_cases h0 : heardC es n e = 0
  case neg =>
    obtain rfl := hx1 h0
    obtain ⟨a, ha1, ha2⟩ := why_heard (aN := aN) (aF := aF) (aR := aR) (aS := aS) (aM := aM) (aL := aL) (es := es) (p := n) (e := e) h0
    rw [ha1]
    have HCD : Hid (Coded aN aF aR aS aM aL (errV a) (heardC es n e)) := ha2
    have HRI : Hid (sendR rs es ts now n e g d = .error (heardC es n e)) := send_unheard H16.out h0
    clear hx1 hx2 hx3 ha1 ha2 h0
    go_wp2
    refine bodyPost_ret (v := .tuple #[.int .i64 0, errV a]) (by simp [results, Tryz.results43, go_sem]) rfl ⟨HB2.out, ?_⟩
    rw [HRI.out]
    exact ⟨0, _, _, rfl, HCD.out⟩
  case pos =>
  by_cases hg : 0 ≤ g ∧ g < (rs.length : Int)
  case neg =>
    obtain rfl := hx2 h0 hg
    have HRI : Hid (sendR rs es ts now n e g d = .error 8) := send_noring H16.out h0 hg
    clear hx1 hx2 hx3 h0 hg
    go_wp2
    refine bodyPost_ret (v := .tuple #[.int .i64 0, errV aR]) (by simp [results, Tryz.results43, go_sem]) rfl ⟨HB2.out, ?_⟩
    rw [HRI.out]
    exact ⟨0, _, _, rfl, fun u hu => why_R u hu⟩
  case pos =>
  obtain ⟨hy1, hy2⟩ := hx3 h0 hg
  cases hN : openOf ts n with
  | zero =>
    obtain rfl := hy1 hN
    have HRI : Hid (sendR rs es ts now n e g d = .error 10) := send_closed H16.out h0 hg hN
    clear hx1 hx2 hx3 hy1 hy2 h0 hg hN
    go_wp2
    refine bodyPost_ret (v := .tuple #[.int .i64 0, errV aS]) (by simp [results, Tryz.results43, go_sem]) rfl ⟨HB2.out, ?_⟩
    rw [HRI.out]
    exact ⟨0, _, _, rfl, fun u hu => why_S u hu⟩
  | succ k =>
    obtain rfl := hy2 k hN
    obtain ⟨t, htk, _, _⟩ := openOf_is hN
    obtain ⟨G, rfl⟩ : ∃ G : Nat, g = (G : Int) := ⟨g.toNat, by omega⟩
    obtain ⟨r, hrg⟩ : ∃ r, rs[G]? = some r := ⟨rs[G]'(by omega), List.getElem?_eq_getElem _⟩
    have HRI : Hid _ := send_at (now := now) (d := d) H16.out h0 hrg hN htk
    have HT : Hid (ts[k]? = some t) := htk
    have HG : Hid (rs[G]? = some r) := hrg
    clear hx1 hx2 hx3 hy1 hy2 h0 hg hN htk hrg
    go_wp2_with fail
    refine (impl_send k G t r d _ HK2.out HU2.out HE2.out HR.out HT.out HG.out H16.out).mono ?_
    rintro x v3 ⟨hb3, hn, hy⟩
    have HB3 : Hid (Below lo w v3) := HB2.out.trans hb3
    cases hroom : roomB r (needN ts t (G : Int)) with
    | false =>
      obtain rfl := hn hroom
      have HRJ : Hid (sendR rs es ts now n e (G : Int) d = .error 9) := show _ = _ by rw [HRI.out, hroom]; rfl
      clear hn hy hroom hb3
      go_wp2
      refine bodyPost_ret (v := .tuple #[.int .i64 0, errV aM]) (by simp [results, Tryz.results43, go_sem]) rfl ⟨HB3.out, ?_⟩
      rw [HRJ.out]
      exact ⟨0, _, _, rfl, fun u hu => why_M u hu⟩
    | true =>
      have HA : Hid (WorkOk lo B (endSum rs) ⟨rs.set G (dataRec r k d), es, ts.set k (touchT t (G : Int)), now, r.first + (r.recs.length : Int)⟩ x v3) := hy hroom
      have HRJ : Hid (sendR rs es ts now n e (G : Int) d = .ok ⟨rs.set G (dataRec r k d), es, ts.set k (touchT t (G : Int)), now, r.first + (r.recs.length : Int)⟩) := show _ = _ by rw [HRI.out, hroom]; rfl
      have hx : x = .returned (.tuple #[.int .i64 (r.first + (r.recs.length : Int)), .nilIface]) := by
        obtain ⟨_, _, _, _, _, _, _, _, _, _, _, _, _, _, hx, _⟩ := HA.out
        exact hx
      subst hx
      clear hn hy hroom hb3
      go_wp2
      exact bodyPost_ret (v := .tuple #[.int .i64 (r.first + (r.recs.length : Int)), .nilIface]) (by simp [results, Tryz.results43, go_sem]) rfl ⟨HB3.out, by rw [HRJ.out]; exact HA.out⟩
theorem callSend1 (args : Array Value) (w : World) : (callFunc 43 args).run Tryz.prog w = .ok (.enter 43 args) w := by
  simp [go_sem, Tryz.func43]
end Go.Proofs.YtahccighonddaaaGreatDoor
namespace Go.Proofs.YtahccighonddaaaGreatDoor
open Go.RowKit Go.Maps
attribute [local go_sem ↓] Go.wp_at_zero Go.wp_at_succ
set_option linter.unusedSimpArgs false
set_option linter.unusedVariables false
variable {aN aF aR aS aM aL : Addr}
theorem impl_SendBig (ra : Option Addr) (rl rc : Nat) (ea : Option Addr) (el ec : Nat) (ta : Option Addr) (tl tc : Nat) (now n e g : Int) (d : ByteArray) (w : World) (hs : 8000 < d.size) (hm : d.size ≤ maxLen) :
    Calls Tryz.prog 10 #[fabVal ra rl rc ea el ec ta tl tc now, .int .i64 n, .int .i64 e, .int .i64 g, .string d] w fun x w' => x = .returned (illV 2) ∧ Below w.heap.size w w' := by
  have hsi : (8000 : Int) < (d.size : Int) := by omega
  go_enter Tryz.func10, Tryz.ntmps10
  go_wp2
  exact bodyPost_ret (v := illV 2) (by simp [results, Tryz.results10, go_sem]) rfl ⟨rfl, below_tr (below_tr (below_tr (below_tr (below_tr (fbelow_new _ _) (fbelow_new _ _)) (fbelow_new _ _)) (fbelow_new _ _)) (fbelow_new _ _)) (fbelow_new _ _)⟩
set_option maxRecDepth 100000 in
set_option maxHeartbeats 2000000 in
theorem impl_Send (ra : Option Addr) (rl rc : Nat) (ea : Option Addr) (el ec : Nat) (ta : Option Addr) (tl tc : Nat) (now n e g : Int) (d : ByteArray) (rs : List RD) (es : List Int) (ts : List TD) (w : World) (hs : d.size ≤ 8000)
    (hi : FIn w ra rl ea el ta tl rs es ts) (hU : utabs w) (hE : Errs aN aF aR aS aM aL w) (hw_n : -9223372036854775808 ≤ n ∧ n ≤ 9223372036854775807) (hn : (ra = none → rl = 0 ∧ rc = 0) ∧ (ea = none → el = 0 ∧ ec = 0) ∧ (ta = none → tl = 0 ∧ tc = 0)) :
    Calls Tryz.prog 10 #[fabVal ra rl rc ea el ec ta tl tc now, .int .i64 n, .int .i64 e, .int .i64 g, .string d] w fun x w' => ((fabRightB rs es ts now = false → x = .returned (illV 1)) ∧ (fabRightB rs es ts now = true → FaceAns w w' (sendR rs es ts now n e g d) x)) ∧ Below w.heap.size w w' := by
  have hmf : ∀ (fn : Fn) (first cap : Array Value) (w : World), (Instr.makeFunc fn first cap).run Tryz.prog w = .ok (.func fn first cap) w := fun _ _ _ _ => rfl
  have hsi : ¬ ((8000 : Int) < (d.size : Int)) := by omega
  have HMX : Hid (d.size ≤ maxLen) := Nat.le_trans hs (by unfold maxLen; omega)
  obtain ⟨W, hW⟩ : ∃ W, (((((w.alloc (fabO ra rl rc ea el ec ta tl tc now)).alloc (.cells #[.int .i64 n] 2 (0, 0))).alloc (.cells #[.int .i64 e] 2 (0, 0))).alloc (.cells #[.int .i64 g] 2 (0, 0))).alloc (.cells #[.string d] 9 (0, 0))).alloc (outO none 0 0 none 0 0 none 0 0 0 0 0) = W := ⟨_, rfl⟩
  have HBW : Hid (Below w.heap.size w W) := by
    subst hW
    exact below_tr (below_tr (below_tr (below_tr (below_tr (fbelow_new _ _) (fbelow_new _ _)) (fbelow_new _ _)) (fbelow_new _ _)) (fbelow_new _ _)) (fbelow_new _ _)
  have HX0 : Hid (W.heap[w.heap.size]? = some (fabO ra rl rc ea el ec ta tl tc now)) := by
    subst hW
    have h1 := heap_alloc_new w (fabO ra rl rc ea el ec ta tl tc now)
    exact ((fbelow_new _ _).block _ (by simp only [World.size_alloc]; omega)).trans (((fbelow_new _ _).block _ (by simp only [World.size_alloc]; omega)).trans (((fbelow_new _ _).block _ (by simp only [World.size_alloc]; omega)).trans (((fbelow_new _ _).block _ (by simp only [World.size_alloc]; omega)).trans (((fbelow_new _ _).block _ (by simp only [World.size_alloc]; omega)).trans (h1)))))
  have HX1 : Hid (W.heap[w.heap.size + 1]? = some (.cells #[.int .i64 n] 2 (0, 0))) := by
    subst hW
    have h1 := heap_alloc_new (w.alloc (fabO ra rl rc ea el ec ta tl tc now)) (.cells #[.int .i64 n] 2 (0, 0))
    simp only [World.size_alloc] at h1
    exact ((fbelow_new _ _).block _ (by simp only [World.size_alloc]; omega)).trans (((fbelow_new _ _).block _ (by simp only [World.size_alloc]; omega)).trans (((fbelow_new _ _).block _ (by simp only [World.size_alloc]; omega)).trans (((fbelow_new _ _).block _ (by simp only [World.size_alloc]; omega)).trans (h1))))
  have HX2 : Hid (W.heap[w.heap.size + 1 + 1]? = some (.cells #[.int .i64 e] 2 (0, 0))) := by
    subst hW
    have h1 := heap_alloc_new ((w.alloc (fabO ra rl rc ea el ec ta tl tc now)).alloc (.cells #[.int .i64 n] 2 (0, 0))) (.cells #[.int .i64 e] 2 (0, 0))
    simp only [World.size_alloc] at h1
    exact ((fbelow_new _ _).block _ (by simp only [World.size_alloc]; omega)).trans (((fbelow_new _ _).block _ (by simp only [World.size_alloc]; omega)).trans (((fbelow_new _ _).block _ (by simp only [World.size_alloc]; omega)).trans (h1)))
  have HX3 : Hid (W.heap[w.heap.size + 1 + 1 + 1]? = some (.cells #[.int .i64 g] 2 (0, 0))) := by
    subst hW
    have h1 := heap_alloc_new (((w.alloc (fabO ra rl rc ea el ec ta tl tc now)).alloc (.cells #[.int .i64 n] 2 (0, 0))).alloc (.cells #[.int .i64 e] 2 (0, 0))) (.cells #[.int .i64 g] 2 (0, 0))
    simp only [World.size_alloc] at h1
    exact ((fbelow_new _ _).block _ (by simp only [World.size_alloc]; omega)).trans (((fbelow_new _ _).block _ (by simp only [World.size_alloc]; omega)).trans (h1))
  have HX4 : Hid (W.heap[w.heap.size + 1 + 1 + 1 + 1]? = some (.cells #[.string d] 9 (0, 0))) := by
    subst hW
    have h1 := heap_alloc_new ((((w.alloc (fabO ra rl rc ea el ec ta tl tc now)).alloc (.cells #[.int .i64 n] 2 (0, 0))).alloc (.cells #[.int .i64 e] 2 (0, 0))).alloc (.cells #[.int .i64 g] 2 (0, 0))) (.cells #[.string d] 9 (0, 0))
    simp only [World.size_alloc] at h1
    exact ((fbelow_new _ _).block _ (by simp only [World.size_alloc]; omega)).trans (h1)
  have HX5 : Hid (W.heap[w.heap.size + 1 + 1 + 1 + 1 + 1]? = some (outO none 0 0 none 0 0 none 0 0 0 0 0)) := by
    subst hW
    have h1 := heap_alloc_new (((((w.alloc (fabO ra rl rc ea el ec ta tl tc now)).alloc (.cells #[.int .i64 n] 2 (0, 0))).alloc (.cells #[.int .i64 e] 2 (0, 0))).alloc (.cells #[.int .i64 g] 2 (0, 0))).alloc (.cells #[.string d] 9 (0, 0))) (outO none 0 0 none 0 0 none 0 0 0 0 0)
    simp only [World.size_alloc] at h1
    exact h1
  have HF : Hid _ := impl_face (aN := aN) (aF := aF) (aR := aR) (aS := aS) (aM := aM) (aL := aL) 43 #[.pointer (some ⟨w.heap.size + 1 + 1 + 1 + 1, 0, none⟩), .pointer (some ⟨w.heap.size + 1, 0, none⟩), .pointer (some ⟨w.heap.size + 1 + 1, 0, none⟩), .pointer (some ⟨w.heap.size + 1 + 1 + 1, 0, none⟩)] ra rl rc ea el ec ta tl tc now rs es ts (sendR rs es ts now n e g d) W callSend1 (hi.below HBW.out) (utabs_below hU HBW.out) (hE.below HBW.out) hn
    (fun hR v B M ta' tc' ra' rc' ea' ec' hb hk => impl_Send1 n e g d (w.heap.size + 1 + 1 + 1 + 1) (w.heap.size + 1) (w.heap.size + 1 + 1) (w.heap.size + 1 + 1 + 1) v hk (utabs_below (utabs_below hU HBW.out) hb) ((hE.below HBW.out).below hb) hR hw_n HMX.out (fb_cell ((hb.block _ (fb_lt HX4.out)).trans HX4.out) 0) (fb_cell ((hb.block _ (fb_lt HX1.out)).trans HX1.out) 0) (fb_cell ((hb.block _ (fb_lt HX2.out)).trans HX2.out) 0) (fb_cell ((hb.block _ (fb_lt HX3.out)).trans HX3.out) 0))
  have hle : w.heap.size ≤ w.heap.size + 1 + 1 + 1 + 1 + 1 := by omega
  have c0 := fun o => fb_cell HX0.out o
  have c4 := fun o => fb_cell HX4.out o
  clear hi hU hE hn hw_n hs
  go_enter Tryz.func10, Tryz.ntmps10
  go_wp2_with fail
  refine Calls.mono HF.out ?_
  rintro x v ⟨⟨hx1, hx2⟩, hb⟩
  have HB : Hid (Below w.heap.size w v) := below_tr HBW.out hb
  have HX1 : Hid (v.heap[w.heap.size + 1 + 1 + 1 + 1 + 1]? = some (outO none 0 0 none 0 0 none 0 0 0 0 0)) := (hb.block _ (fb_lt HX5.out)).trans HX5.out
  have HZ : Hid (w.heap.size ≤ W.heap.size) := HBW.out.size
  have cx := fun o => fb_cell HX1.out o
  have fx := fun o => unfrozen_of_block0 HX1.out o
  clear hb HF HX0 HX2 HX3 HX4 HX5 HBW c0 c4 hW
  cases hR : fabRightB rs es ts now with
  | false =>
    obtain rfl := hx1 hR
    have HRH : Hid (fabRightB rs es ts now = false) := hR
    clear hx1 hx2 hR
    go_wp2
    exact bodyPost_ret (v := illV 1) (by simp [results, Tryz.results10, go_sem, cx]) rfl ⟨⟨fun _ => rfl, (fun e => by rw [HRH.out] at e; cases e)⟩, below_set6o HB.out hle _ _ _ _ _ _⟩
  | true =>
    have hx := hx2 hR
    have HRH : Hid (fabRightB rs es ts now = true) := hR
    obtain ⟨Q, hQ⟩ : ∃ Q, sendR rs es ts now n e g d = Q := ⟨_, rfl⟩
    have HQ : Hid (sendR rs es ts now n e g d = Q) := hQ
    rw [hQ] at hx
    clear hx1 hx2 hR hQ
    cases Q with
    | error c =>
      have hx' : x = .returned (illV c) := hx
      subst hx'
      clear hx
      go_wp2
      exact bodyPost_ret (v := illV c) (by simp [results, Tryz.results10, go_sem, cx]) rfl ⟨⟨(fun e => by rw [HRH.out] at e; cases e), fun _ => by rw [HQ.out]; rfl⟩, below_set6o HB.out hle _ _ _ _ _ _⟩
    | ok F =>
      obtain ⟨ra3, rl3, rc3, ea3, ec3, ta3, tl3, tc3, rs3, ts3, rfl, ho3, hs3, h4, h12⟩ := hx
      have HO3 : Hid (OwnFab v w.heap.size ra3 rl3 rc3 ea3 4 ec3 ta3 tl3 tc3 rs3 F.es ts3) := ho3.mono HZ.out
      have HS3 : Hid (FabSame F.rs rs3 F.ts ts3) := hs3
      have H44 : Hid (rl3 ≤ 4 ∧ tl3 ≤ 12) := ⟨h4, h12⟩
      clear ho3 hs3 h4 h12
      go_wp2
      exact bodyPost_ret (v := outV ra3 rl3 rc3 ea3 4 ec3 ta3 tl3 tc3 F.now F.n 0) (by simp [results, Tryz.results10, go_sem, cx]) rfl ⟨⟨(fun e => by rw [HRH.out] at e; cases e), fun _ => by rw [HQ.out]; exact ⟨ra3, rl3, rc3, ea3, ec3, ta3, tl3, tc3, rs3, ts3, rfl, HO3.out.box HX1.out out_ne (grown_set6o v (w.heap.size + 1 + 1 + 1 + 1 + 1) _ _ _ _ _ _), HS3.out, H44.out.1, H44.out.2⟩⟩, below_set6o HB.out hle _ _ _ _ _ _⟩
end Go.Proofs.YtahccighonddaaaGreatDoor
namespace Go.Proofs.YtahccighonddaaaGreatDoor
open Go.RowKit
set_option linter.unusedSimpArgs false
set_option linter.unusedVariables false
theorem up_ge {l : List Int} (hu : upB l = true) (hr : l.all rnum = true) : ∀ j (hj : j < l.length), (j : Int) ≤ l[j] := by
  have hr' := List.all_eq_true.1 hr
  have hu' := of_decide_eq_true hu
  intro j
  induction j with
  | zero => intro hj; exact (of_decide_eq_true (hr' _ (List.getElem_mem hj))).1
  | succ j ih => intro hj; have h1 := ih (by omega); have h2 := hu' j (by omega) hj; omega
theorem rings_four {l : List Int} (h : ringsB l = true) : l.length ≤ 4 := by
  simp only [ringsB, Bool.and_eq_true] at h
  by_cases h4 : l.length ≤ 4
  · exact h4
  · have h1 := up_ge h.2 h.1 4 (by omega)
    have h2 := (of_decide_eq_true (List.all_eq_true.1 h.1 _ (List.getElem_mem (show 4 < l.length by omega)))).2
    omega
theorem touch_len_s (p e s u : Int) (rs ls : List Int) (g : Int) : (touchL p e s u rs ls g).length ≤ rs.length + 1 := by
  unfold touchL insN
  split
  · split
    · omega
    · simp only [List.length_append, List.length_cons, List.length_take, List.length_drop]; omega
  · omega
theorem send_same {rs rs' : List RD} {ts ts' : List TD} (es : List Int) (now n e g : Int) (d : ByteArray) (hr : rs'.map RD.strip = rs.map RD.strip) (ht : ts'.map TD.strip = ts.map TD.strip) :
    (∃ c, sendR rs es ts now n e g d = .error c ∧ sendR rs' es ts' now n e g d = .error c) ∨ ∃ F F', sendR rs es ts now n e g d = .ok F ∧ sendR rs' es ts' now n e g d = .ok F' ∧ F'.rs.map RD.strip = F.rs.map RD.strip ∧ F'.es = F.es ∧ F'.ts.map TD.strip = F.ts.map TD.strip ∧ F'.now = F.now ∧ F'.n = F.n := by
  have hl : rs'.length = rs.length := by have := congrArg List.length hr; simpa using this
  unfold sendR
  by_cases hd : ¬ d.size ≤ 16
  · rw [if_pos hd, if_pos hd]; exact .inl ⟨_, rfl, rfl⟩
  rw [if_neg hd, if_neg hd]
  by_cases hc : heardC es n e = 0
  case neg => rw [if_neg hc, if_neg hc]; exact .inl ⟨_, rfl, rfl⟩
  rw [if_pos hc, if_pos hc, hl]
  by_cases hg : 0 ≤ g ∧ g < (rs.length : Int)
  case neg => rw [if_neg hg, if_neg hg]; exact .inl ⟨_, rfl, rfl⟩
  rw [if_pos hg, if_pos hg, openOf_same n ht]
  cases openOf ts n with
  | zero => exact .inl ⟨_, rfl, rfl⟩
  | succ k =>
    simp only
    rcases strip_at2 ht k with ⟨e1, e2⟩ | ⟨t, t', e1, e2, hs⟩
    · simp only [e1, e2]; exact .inl ⟨_, rfl, rfl⟩
    · simp only [e1, e2]
      simp only [TD.strip, TD.mk.injEq, true_and] at hs
      obtain ⟨k0, k1, k2, k3, k4, k5⟩ := hs
      rcases strip_at2 hr g.toNat with ⟨f1, f2⟩ | ⟨r, r', f1, f2, hq⟩
      · simp only [f1, f2]; exact .inl ⟨_, rfl, rfl⟩
      · simp only [f1, f2]
        simp only [RD.strip, RD.mk.injEq, true_and] at hq
        obtain ⟨q0, q1, q2, q3⟩ := hq
        have hN : needN ts' t' g = needN ts t g := by unfold needN; rw [owed_same g ht, k4]
        have hR : roomB r' (needN ts' t' g) = roomB r (needN ts t g) := by rw [hN]; unfold roomB; rw [q0, q1, q2]
        rw [hR]
        cases roomB r (needN ts t g) with
        | false => exact .inl ⟨_, rfl, rfl⟩
        | true =>
          refine .inr ⟨_, _, rfl, rfl, ?_, rfl, ?_, rfl, ?_⟩
          · show (rs'.set _ _).map _ = (rs.set _ _).map _
            rw [List.map_set, List.map_set, hr, show dataRec r' k d = dataRec r k d by simp only [dataRec, q0, q1, q2, q3]]
          · show (ts'.set _ _).map _ = (ts.set _ _).map _
            rw [List.map_set, List.map_set, ht, show touchT t' g = touchT t g by simp only [touchT, k0, k1, k2, k3, k4, k5]]
          · show r'.first + (r'.recs.length : Int) = r.first + (r.recs.length : Int)
            rw [q1, q2]
theorem law_Send (ra : Option Addr) (rl rc : Nat) (ea : Option Addr) (el ec : Nat) (ta : Option Addr) (tl tc : Nat) (now n e g : Int) (s : ByteArray) (rs : List RD) (es : List Int) (ts : List TD) (w : World) (hi : LFIn w ra rl ea el ta tl rs es ts) (hw : -9223372036854775808 ≤ n ∧ n ≤ 9223372036854775807) (hwe : -9223372036854775808 ≤ e ∧ e ≤ 9223372036854775807) (hwg : -9223372036854775808 ≤ g ∧ g ≤ 9223372036854775807) (hm : s.size ≤ maxLen) (hp : PreW w) :
    Calls Tryz.prog 3 #[fabVal ra rl rc ea el ec ta tl tc now, .int .i64 n, .int .i64 e, .int .i64 g, .string s] w fun x w' => x = .returned (.bool true) ∧ Below w.heap.size w w' := by
  refine law_Send_of PreW preW_below (fun rs es ts => sendT rs es ts now n e g s) now n e g s
    (fun d w hf hn hp => spec_Send d.ra d.rl d.rc d.ea d.el d.ec d.ta d.tl d.tc now n e g s d.rs d.es d.ts w hf hn.2.1 hm)
    (fun d w hf hn hp => ?_) (fun rs rs' es ts ts' hr ht => ?_) ra rl rc ea el ec ta tl tc rs es ts w hi hp (fun hs => ?_)
  · obtain ⟨hu, aN, aF, aR, aS, aM, aL, hE⟩ := hp
    by_cases h8 : s.size ≤ 8000
    · have hT : sendT d.rs d.es d.ts now n e g s = ftOf (fabRightB d.rs d.es d.ts now) (sendR d.rs d.es d.ts now n e g s) := if_pos h8
      rw [hT]
      exact (impl_Send d.ra d.rl d.rc d.ea d.el d.ec d.ta d.tl d.tc now n e g s d.rs d.es d.ts w h8 hf hu hE hw hn).mono fun x w' h => ⟨ans_face h.1.1 h.1.2, h.2⟩
    · have hT : sendT d.rs d.es d.ts now n e g s = ftIll 2 := if_neg h8
      rw [hT]
      exact (impl_SendBig d.ra d.rl d.rc d.ea d.el d.ec d.ta d.tl d.tc now n e g s w (by omega) hm).mono fun x w' h => ⟨⟨⟨none, 0, 0, none, 0, 0, none, 0, 0, [], [], []⟩, h.1, ownFab_nil _ _, rfl, rfl, rfl⟩, h.2⟩
  · unfold sendT
    by_cases h8 : s.size ≤ 8000
    · rw [if_pos h8, if_pos h8, fab_same es now hr ht]
      exact ft_same fun hR => send_same es now n e g s hr ht
    · rw [if_neg h8, if_neg h8]
  · obtain ⟨h1, h2⟩ := lfin_sm hi hs
    unfold sendT
    by_cases h8 : s.size ≤ 8000
    case neg => rw [if_neg h8]; exact fts_ill 2
    rw [if_pos h8]
    refine fts_of fun F hR hF => ?_
    have hz := right_sizes hR
    unfold sendR at hF
    by_cases hd : ¬ s.size ≤ 16
    · rw [if_pos hd] at hF; cases hF
    rw [if_neg hd] at hF
    by_cases hc : heardC es n e = 0
    case neg => rw [if_neg hc] at hF; cases hF
    rw [if_pos hc] at hF
    by_cases hg : 0 ≤ g ∧ g < (rs.length : Int)
    case neg => rw [if_neg hg] at hF; cases hF
    rw [if_pos hg] at hF
    cases hk : openOf ts n with
    | zero => rw [hk] at hF; cases hF
    | succ k =>
      rw [hk] at hF
      simp only at hF
      cases ht : ts[k]? with
      | none => rw [ht] at hF; cases hF
      | some t =>
        rw [ht] at hF
        simp only at hF
        cases hr : rs[g.toNat]? with
        | none => rw [hr] at hF; cases hF
        | some r =>
          rw [hr] at hF
          simp only at hF
          split at hF
          · cases hF
            have hm2 := h2 t (List.mem_of_getElem? ht)
            have hrm := h1 r (List.mem_of_getElem? hr)
            have hfit := right_first (fit_right (right_ring hR hr))
            have htr : t.rs.length ≤ 4 := by
              have h3 := right_txnR hR (List.mem_of_getElem? ht)
              simp only [txnRightB, Bool.and_eq_true] at h3
              exact rings_four h3.1.1.1.2
            refine ⟨by show (rs.set _ _).length ≤ 4; rw [List.length_set]; exact hz.2.1, by show es.length ≤ 4; omega, by show (ts.set _ _).length ≤ 12; rw [List.length_set]; exact hz.2.2.2, fun q hq => ?_, fun q hq => ?_⟩
            · rcases List.mem_or_eq_of_mem_set hq with hq | rfl
              · exact h1 q hq
              · refine ⟨by show (r.recs ++ [_]).length ≤ _; rw [List.length_append, List.length_singleton]; omega, hrm.2.1, fun s' hs' => ?_⟩
                rcases List.mem_append.1 hs' with hs' | hs'
                · exact hrm.2.2 s' hs'
                · rw [List.mem_singleton.1 hs']; have := recText_size 1 ((k : Int) + 1) s; omega
            · rcases List.mem_or_eq_of_mem_set hq with hq | rfl
              · exact h2 q hq
              · refine ⟨?_, hm2.2.1, hm2.2.2⟩
                have := touch_len_s t.p t.e t.s t.u t.rs t.ls g
                show (touchL t.p t.e t.s t.u t.rs t.ls g).length ≤ _
                omega
          · cases hF
end Go.Proofs.YtahccighonddaaaGreatDoor
