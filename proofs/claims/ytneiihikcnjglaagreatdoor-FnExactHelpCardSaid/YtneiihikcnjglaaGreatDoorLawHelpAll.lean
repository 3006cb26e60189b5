import Derived.Test.YtneiihikcnjglaaGreatDoorFabEnd
import Derived.Test.YtneiihikcnjglaaGreatDoorFabEndBy
import Derived.Test.YtneiihikcnjglaaGreatDoorSpecPut
import Derived.Deep.LoopGhost
import Derived.WalkMore
import Derived.Test.YtneiihikcnjglaaGreatDoorNrm
/- The program's Help. -/
namespace Go.Proofs.YtneiihikcnjglaaGreatDoor
open Go.RowKit Go.Maps
attribute [local go_sem ↓] Go.wp_at_zero Go.wp_at_succ
set_option linter.unusedSimpArgs false
set_option linter.unusedVariables false
variable {aN aF aR aS aM aL : Addr}
theorem find_low {j g : Int} {ls : List Int} (h : j < g) : findNB j (g :: ls) = false := by
  unfold findNB findN
  rw [List.findIdx_cons, decide_eq_true (show j ≤ g by omega)]
  simp
  omega
theorem find_head {g : Int} {ls : List Int} : findN g (g :: ls) = 0 ∧ findNB g (g :: ls) = true := by
  have h : findN g (g :: ls) = 0 := by unfold findN; rw [List.findIdx_cons]; simp
  refine ⟨h, ?_⟩
  unfold findNB
  rw [h]
  simp
theorem impl_kindOfEnd (s : Int) (w : World) (h : s = 2 ∨ s = 3) : Calls Tryz.prog 139 #[.int .i64 s] w fun x w' => x = .returned (.int .i64 s) ∧ w' = w := by
  rcases h with rfl | rfl
  all_goals
    go_enter Tryz.func139, Tryz.ntmps139
    go_wp2
    go_ret
    exact ⟨rfl, rfl⟩
set_option maxRecDepth 100000 in
set_option maxHeartbeats 2000000 in
theorem impl_firstLeft {lo B M : Nat} {ta : Option Addr} {tl tc : Nat} {ra : Option Addr} {rl rc : Nat} {ea : Option Addr} {el ec : Nat} {now began puts : Int} {ts : List TD} {rs : List RD} {es : List Int} {m : Nat} {D : DataW Unit} (w : World)
    (h : WK lo w B M ta tl tc ra rl rc ea el ec now began puts ts rs es m D) (hE : Errs aN aF aR aS aM aL w) (htl : tl ≤ 1048576) (hG : ∀ t ∈ ts, ∀ y ∈ t.ls, 0 ≤ y ∧ y ≤ 3) :
    Calls Tryz.prog 138 #[.pointer (some ⟨B, 0, none⟩)] w fun x w' => ((leftAt ts = none → x = .returned (.tuple #[.int .i64 0, .int .i64 0, errV aL])) ∧ ∀ k t g ls, leftAt ts = some k → ts[k]? = some t → t.ls = g :: ls → x = .returned (.tuple #[.int .i64 (k : Int), .int .i64 g, .nilIface])) ∧ Below w.heap.size w w' := by
  have HK : Hid (WK lo w B M ta tl tc ra rl rc ea el ec now began puts ts rs es m D) := h
  have HG : Hid (∀ t ∈ ts, ∀ y ∈ t.ls, 0 ≤ y ∧ y ≤ 3) := hG
  have cb := fun o => fb_cell h.b o
  have cL := hE.l.cell
  clear h hE hG
  go_enter Tryz.func138, Tryz.ntmps138
  have cb1 : ∀ o, w.drew.cell? ⟨B, o, none⟩ = _ := cb
  go_wp2
  go_step3
  go_wp2
  go_quiet (first | (fail))
  go_wp2
  go_step3
  go_wp2
  clear cb cb1 cL
  go_loopg [5, 6, 7, 17] tl (fun g s5 s6 s7 s17 wr => ∃ k : Nat, k + g = tl ∧ s5 = .int .i64 0 ∧ s6 = .int .i64 0 ∧ s7 = errV aL ∧ s17 = .int .i64 k ∧ Hid (∀ (i : Nat) (u : TD), i < k → ts[i]? = some u → u.ls = []) ∧ Hid (Below w.heap.size w wr))
  case atStart => exact ⟨0, by omega, rfl, rfl, rfl, rfl, (fun i u hi => by omega), tbelow_dn (Below.refl _ _) _⟩
  case round =>
    obtain ⟨k, hkg, rfl, rfl, rfl, rfl, hB, HB⟩ := hrel
    cases gk with
    | zero =>
      obtain rfl : k = tl := by omega
      have HN : Hid (leftAt ts = none) := leftAt_none fun t ht => by
        obtain ⟨i, hi, e⟩ := List.getElem_of_mem ht
        exact hB.out i t (by have := HK.out.txs.1; omega) (by rw [List.getElem?_eq_getElem hi, e])
      have hnl : ¬ ((k : Int) < (k : Int)) := by omega
      go_wp2
      exact bodyPost_ret (v := .tuple #[.int .i64 0, .int .i64 0, errV aL]) (by simp [results, Tryz.results138, go_sem]) rfl ⟨⟨fun _ => rfl, (fun k t g ls h => by rw [HN.out] at h; cases h)⟩, HB.out⟩
    | succ g =>
      have hklt : k < tl := by omega
      have hkli : (k : Int) < (tl : Int) := by omega
      obtain ⟨b, off, t, rfl, e1, g0, g1, g2, g3, g4, g5, hf⟩ := txsG_at keeps_tfit HK.out.txs HB.out hklt
      have HT : Hid (ts[k]? = some t) := e1
      have HF : Hid (TFit (wr.alloc t.obj) t) := hf.out.below (fbelow_new _ _)
      have HB1 : Hid (Below w.heap.size w (wr.alloc t.obj)) := below_tr HB.out (fbelow_new _ _)
      have HBX : Hid ((wr.alloc t.obj).heap[wr.heap.size]? = some t.obj) := heap_alloc_new _ _
      have HGT : Hid (∀ y ∈ t.ls, 0 ≤ y ∧ y ≤ 3) := HG.out t (List.mem_of_getElem? e1)
      obtain ⟨X, hX⟩ : ∃ X, wr.heap.size = X := ⟨_, rfl⟩
      rw [hX] at HBX
      clear e1 hf
      go_wp2
      clear hX g0 g1 g2 g3 g4 g5
      obtain ⟨U, hU⟩ : ∃ U, wr.alloc t.obj = U := ⟨_, rfl⟩
      rw [hU] at HF HB1 HBX
      rw [show wr.alloc (Obj.cells #[.int .i64 t.p, .int .i64 t.e, .int .i64 t.s, .int .i64 t.u, .slice t.ra t.rl t.rc, .slice t.la t.ll t.lc] 67) = U from hU]
      clear hU HB wr
      go_loopg [5, 6, 7, 10] 4 (fun g s5 s6 s7 s10 wx => ∃ j : Nat, j + g = 4 ∧ s5 = .int .i64 0 ∧ s6 = .int .i64 0 ∧ s7 = errV aL ∧ s10 = .int .i64 j ∧ Hid (∀ x ls, t.ls = x :: ls → (j : Int) ≤ x) ∧ Hid (wx.heap[X]? = some t.obj) ∧ Hid (TFit wx t) ∧ Hid (Below w.heap.size w wx))
      case atStart => exact ⟨0, by omega, rfl, rfl, rfl, rfl, (fun x ls e => (HGT.out x (by rw [e]; simp)).1), HBX.out, HF.out, HB1.out⟩
      case round =>
        clear HF HB1 HBX
        obtain ⟨j, hjg, rfl, rfl, rfl, rfl, HLow, HBX, HF, HB1⟩ := hrel
        have cx := fun o => fb_cell HBX.out o
        cases gk with
        | zero =>
          obtain rfl : j = 4 := by omega
          have HE : Hid (t.ls = []) := show _ = _ by
            cases hls : t.ls with
            | nil => rfl
            | cons x ls => have h1 := HLow.out x ls hls; have h2 := (HGT.out x (by rw [hls]; simp)).2; omega
          have HB2 : Hid (∀ (i : Nat) (u : TD), i < k + 1 → ts[i]? = some u → u.ls = []) := fun i u hi hu => by
            by_cases e : i = k
            · subst e
              obtain rfl := Option.some.inj (HT.out.symm.trans hu)
              exact HE.out
            · exact hB.out i u (by omega) hu
          go_wp2
          go_roundg g
          case measure => omega
          case rel => exact ⟨k + 1, by omega, rfl, rfl, rfl, by go_num, HB2.out, HB1.out⟩
        | succ g2 =>
          have hj3 : (j : Int) ≤ 3 := by omega
          go_wp2_with fail
          refine (impl_leftOn t (j : Int) _ HF.out).mono ?_
          rintro x v ⟨rfl, hb⟩
          have HBXv : Hid (v.heap[X]? = some t.obj) := (hb.block _ (fb_lt HBX.out)).trans HBX.out
          have HFv : Hid (TFit v t) := HF.out.below hb
          have HB1v : Hid (Below w.heap.size w v) := below_tr HB1.out hb
          clear hb cx HBX HF HB1
          cases hfn : findNB (j : Int) t.ls with
          | false =>
            have HL2 : Hid (∀ x ls, t.ls = x :: ls → (((j + 1 : Nat)) : Int) ≤ x) := fun x ls e => by
              have h1 := HLow.out x ls e
              by_cases h2 : (j : Int) = x
              · rw [e, h2, find_head.2] at hfn; cases hfn
              · omega
            clear hfn
            go_wp2
            go_roundg g2
            case measure => omega
            case rel => exact ⟨j + 1, by omega, rfl, rfl, rfl, by go_num, HL2.out, HBXv.out, HFv.out, HB1v.out⟩
          | true =>
            have HFD : Hid (leftAt ts = some k ∧ ∃ ls, t.ls = (j : Int) :: ls) := by
              cases hls : t.ls with
              | nil => rw [hls] at hfn; cases hfn
              | cons x ls =>
                have h1 := HLow.out x ls hls
                have hx : x = (j : Int) := by
                  by_cases h2 : (j : Int) < x
                  · rw [hls, find_low h2] at hfn; cases hfn
                  · omega
                exact ⟨leftAt_some HT.out (by rw [hls]; simp) (fun i u hi hu => hB.out i u hi hu), ls, by rw [hx]⟩
            clear hfn
            go_wp2
            rw [Exit.noGoto_ret]
            refine bodyPost_ret (v := .tuple #[.int .i64 (k : Int), .int .i64 (j : Int), .nilIface]) (by simp [results, Tryz.results138, go_sem]) rfl ⟨⟨(fun h => by rw [HFD.out.1] at h; cases h), fun k2 t2 g2 ls2 h1 h2 h3 => ?_⟩, HB1v.out⟩
            obtain rfl := Option.some.inj (HFD.out.1.symm.trans h1)
            obtain rfl := Option.some.inj (HT.out.symm.trans h2)
            obtain ⟨ls, hls⟩ := HFD.out.2
            rw [hls] at h3
            cases h3
            rfl
end Go.Proofs.YtneiihikcnjglaaGreatDoor
/- The program's put: one record more on a ring. -/
namespace Go.Proofs.YtneiihikcnjglaaGreatDoor
open Go.RowKit Go.Maps
attribute [local go_sem ↓] Go.wp_at_zero Go.wp_at_succ
set_option linter.unusedSimpArgs false
set_option linter.unusedVariables false
variable {aN aF aR aS aM aL : Addr}
abbrev pRecO (k t : Int) (d : ByteArray) : Obj := .cells #[.int .i64 k, .int .i64 t, .string d] 94 (0, 0)
abbrev pOutO (cap first : Int) (a : Option Addr) (n q : Nat) (b : Option Addr) (m p : Nat) : Obj := .cells #[.int .i64 cap, .int .i64 first, .slice a n q, .slice b m p, .int .i64 0, .int .i64 0, .string ⟨#[]⟩, .int .i64 0] 96 (0, 0)
theorem own_fitR {w : World} {base n q m p : Nat} {a b : Option Addr} {recs : List ByteArray} {curs : List (Int × Int)} (h : OwnRing w base a n q b m p (recs.map Value.string) (curCells curs)) (hs : ∀ s ∈ recs, s.size ≤ 1048576) (hn : n ≤ 1048576) (hm : m ≤ 1048576) : RFit w a n q b m p recs curs := by
  obtain ⟨a1, q1, e1, h1⟩ := own_strIn h.1
  obtain ⟨a2, q2, e2, h2⟩ := own_curIn h.2
  simp only [Value.slice.injEq] at e1 e2
  obtain ⟨rfl, _, rfl⟩ := e1
  obtain ⟨rfl, _, rfl⟩ := e2
  exact ⟨h1, h2, hs, hn, hm, nown_capMax h.1, nown_capMax h.2⟩
/-- A box written whole. -/
theorem out_put8 (W : World) (Y : Nat) (u0 u1 u2 u3 u4 u5 u6 u7 v0 v1 v2 v3 v4 v5 v6 v7 : Value) (t : TypeId) (h : W.heap[Y]? = some (.cells #[u0, u1, u2, u3, u4, u5, u6, u7] t (0, 0))) : (set8 W Y v0 v1 v2 v3 v4 v5 v6 v7).heap[Y]? = some (.cells #[v0, v1, v2, v3, v4, v5, v6, v7] t (0, 0)) := by
  have h0 : (W.setCell ⟨Y, 0, none⟩ v0).heap[Y]? = some (.cells #[v0, u1, u2, u3, u4, u5, u6, u7] t (0, 0)) := heap_setCell_same W Y 0 _ _ v0 h
  have h1 : ((W.setCell ⟨Y, 0, none⟩ v0).setCell ⟨Y, 1, none⟩ v1).heap[Y]? = some (.cells #[v0, v1, u2, u3, u4, u5, u6, u7] t (0, 0)) := heap_setCell_same (W.setCell ⟨Y, 0, none⟩ v0) Y 1 _ _ v1 h0
  have h2 : (((W.setCell ⟨Y, 0, none⟩ v0).setCell ⟨Y, 1, none⟩ v1).setCell ⟨Y, 2, none⟩ v2).heap[Y]? = some (.cells #[v0, v1, v2, u3, u4, u5, u6, u7] t (0, 0)) := heap_setCell_same ((W.setCell ⟨Y, 0, none⟩ v0).setCell ⟨Y, 1, none⟩ v1) Y 2 _ _ v2 h1
  have h3 : ((((W.setCell ⟨Y, 0, none⟩ v0).setCell ⟨Y, 1, none⟩ v1).setCell ⟨Y, 2, none⟩ v2).setCell ⟨Y, 3, none⟩ v3).heap[Y]? = some (.cells #[v0, v1, v2, v3, u4, u5, u6, u7] t (0, 0)) := heap_setCell_same (((W.setCell ⟨Y, 0, none⟩ v0).setCell ⟨Y, 1, none⟩ v1).setCell ⟨Y, 2, none⟩ v2) Y 3 _ _ v3 h2
  have h4 : (((((W.setCell ⟨Y, 0, none⟩ v0).setCell ⟨Y, 1, none⟩ v1).setCell ⟨Y, 2, none⟩ v2).setCell ⟨Y, 3, none⟩ v3).setCell ⟨Y, 4, none⟩ v4).heap[Y]? = some (.cells #[v0, v1, v2, v3, v4, u5, u6, u7] t (0, 0)) := heap_setCell_same ((((W.setCell ⟨Y, 0, none⟩ v0).setCell ⟨Y, 1, none⟩ v1).setCell ⟨Y, 2, none⟩ v2).setCell ⟨Y, 3, none⟩ v3) Y 4 _ _ v4 h3
  have h5 : ((((((W.setCell ⟨Y, 0, none⟩ v0).setCell ⟨Y, 1, none⟩ v1).setCell ⟨Y, 2, none⟩ v2).setCell ⟨Y, 3, none⟩ v3).setCell ⟨Y, 4, none⟩ v4).setCell ⟨Y, 5, none⟩ v5).heap[Y]? = some (.cells #[v0, v1, v2, v3, v4, v5, u6, u7] t (0, 0)) := heap_setCell_same (((((W.setCell ⟨Y, 0, none⟩ v0).setCell ⟨Y, 1, none⟩ v1).setCell ⟨Y, 2, none⟩ v2).setCell ⟨Y, 3, none⟩ v3).setCell ⟨Y, 4, none⟩ v4) Y 5 _ _ v5 h4
  have h6 : (((((((W.setCell ⟨Y, 0, none⟩ v0).setCell ⟨Y, 1, none⟩ v1).setCell ⟨Y, 2, none⟩ v2).setCell ⟨Y, 3, none⟩ v3).setCell ⟨Y, 4, none⟩ v4).setCell ⟨Y, 5, none⟩ v5).setCell ⟨Y, 6, none⟩ v6).heap[Y]? = some (.cells #[v0, v1, v2, v3, v4, v5, v6, u7] t (0, 0)) := heap_setCell_same ((((((W.setCell ⟨Y, 0, none⟩ v0).setCell ⟨Y, 1, none⟩ v1).setCell ⟨Y, 2, none⟩ v2).setCell ⟨Y, 3, none⟩ v3).setCell ⟨Y, 4, none⟩ v4).setCell ⟨Y, 5, none⟩ v5) Y 6 _ _ v6 h5
  have h7 : ((((((((W.setCell ⟨Y, 0, none⟩ v0).setCell ⟨Y, 1, none⟩ v1).setCell ⟨Y, 2, none⟩ v2).setCell ⟨Y, 3, none⟩ v3).setCell ⟨Y, 4, none⟩ v4).setCell ⟨Y, 5, none⟩ v5).setCell ⟨Y, 6, none⟩ v6).setCell ⟨Y, 7, none⟩ v7).heap[Y]? = some (.cells #[v0, v1, v2, v3, v4, v5, v6, v7] t (0, 0)) := heap_setCell_same (((((((W.setCell ⟨Y, 0, none⟩ v0).setCell ⟨Y, 1, none⟩ v1).setCell ⟨Y, 2, none⟩ v2).setCell ⟨Y, 3, none⟩ v3).setCell ⟨Y, 4, none⟩ v4).setCell ⟨Y, 5, none⟩ v5).setCell ⟨Y, 6, none⟩ v6) Y 7 _ _ v7 h6
  exact h7
set_option maxRecDepth 100000 in
set_option maxHeartbeats 4000000 in
theorem impl_put {lo B M : Nat} {ta : Option Addr} {tl tc : Nat} {ra : Option Addr} {rl rc : Nat} {ea : Option Addr} {el ec : Nat} {now began puts : Int} {ts : List TD} {rs : List RD} {es : List Int} {m : Nat} {D : DataW Unit} (g : Nat) (r : RD) (k t : Int) (d : ByteArray) (rcs : List ByteArray) (w : World)
    (h : WK lo w B M ta tl tc ra rl rc ea el ec now began puts ts rs es m D) (hg : rs[g]? = some r) (hrl : rl ≤ 1048576) (hU : utabs w) (hd : d.size ≤ maxLen) (hp : putR r.cap r.first r.recs r.curs k t d = RO.ring r.cap r.first rcs r.curs) (hF : 0 ≤ r.first ∧ r.first ≤ 1000000) (hlen : rcs.length = r.recs.length + 1) (hle : r.rl ≤ 1000) (hcl : r.cl ≤ 1000) (hsz : ∀ s ∈ rcs, s.size ≤ 1048576) (hpu : -9000000 ≤ puts ∧ puts ≤ 9000000) :
    Calls Tryz.prog 135 #[.pointer (some ⟨B, 0, none⟩), .int .i64 (g : Int), recV k t d] w fun x w' => x = .returned (.int .i64 (r.first + (r.rl : Int))) ∧ Below lo w w' ∧
      ∃ r' : RD, r'.strip = ⟨r.cap, r.first, none, 0, 0, none, 0, 0, rcs, r.curs⟩ ∧ r'.rl = r.rl + 1 ∧ WK lo w' B M ta tl tc ra rl rc ea el ec now began (puts + 1) ts (rs.set g r') es m D := by
  have hgl : g < rl := by rw [← h.rngs.1]; exact (List.getElem?_eq_some_iff.1 hg).1
  obtain ⟨rb, rfl⟩ := own_nform h.r (by omega)
  have HK : Hid (WK lo (w.alloc (pRecO k t d)) B M ta tl tc (some ⟨rb, 0, none⟩) rl rc ea el ec now began puts ts rs es m D) := h.under (fbelow_new _ _)
  have HU : Hid (utabs (w.alloc (pRecO k t d))) := utabs_below hU (fbelow_new _ _)
  have HB0 : Hid (Below w.heap.size w (w.alloc (pRecO k t d))) := fbelow_new _ _
  have HRX : Hid ((w.alloc (pRecO k t d)).heap[w.heap.size]? = some (pRecO k t d)) := heap_alloc_new _ _
  have HG : Hid (rs[g]? = some r) := hg
  have HLO : Hid (lo ≤ w.heap.size) := Nat.le_of_lt (Nat.lt_of_le_of_lt h.lb (fb_lt h.b))
  have HR : Hid (r.fit (w.alloc (pRecO k t d))) := (h.fr r (List.mem_of_getElem? hg)).below (fbelow_new _ _)
  have hrn : r.recs.length = r.rl := HR.out.str.strs.1
  have hcn : r.curs.length = r.cl := HR.out.cur.curs.1
  have HP : Hid (putR r.cap r.first r.recs r.curs k t d = RO.ring r.cap r.first rcs r.curs) := hp
  have HRL : Hid (rcs.length = r.rl + 1 ∧ r.curs.length = r.cl) := ⟨by omega, hcn⟩
  have HSZ : Hid (∀ s ∈ rcs, s.size ≤ 1048576) := hsz
  have HD : Hid (d.size ≤ maxLen) := hd
  have hgi : decide (0 ≤ (g : Int) ∧ (g : Int) < (rl : Int)) = true := decide_eq_true ⟨by omega, by omega⟩
  have hgil : (g : Int) < (rl : Int) := by omega
  clear h hg hU hp hlen hsz hd hrn hcn
  go_enter Tryz.func135, Tryz.ntmps135
  go_wp2_with fail
  refine (impl_hasRing (g : Int) _ HK.out.b hrl).mono ?_
  rintro x v ⟨rfl, hv⟩
  rw [hv, hgi]
  clear hv v hgi
  go_upto_region 3 with fail
  obtain ⟨U, hU⟩ : ∃ U, w.alloc (pRecO k t d) = U := ⟨_, rfl⟩
  rw [hU] at HK HU HB0 HRX HR
  rw [show w.alloc (Obj.cells #[.int .i64 k, .int .i64 t, .string d] 94) = U from hU]
  clear hU
  have HZ : Hid (w.heap.size < U.heap.size) := fb_lt HRX.out
  obtain ⟨b, off, r1, e0, e1, g0, g1, g2, g3, _⟩ := rngsG_at keeps_fit HK.out.rngs (Below.refl _ _) hgl
  cases e0
  obtain rfl := Option.some.inj (HG.out.symm.trans e1)
  simp only [Nat.zero_add] at g0 g1 g2 g3
  clear e1
  have cb := fun o => fb_cell HK.out.b o
  have cr := fun o => fb_cell HRX.out o
  have HKa : Hid (WK lo (U.alloc outObj0) B M ta tl tc (some ⟨rb, 0, none⟩) rl rc ea el ec now began puts ts rs es m D) := HK.out.under (fbelow_new _ _)
  have HRXa : Hid ((U.alloc outObj0).heap[w.heap.size]? = some (pRecO k t d)) := ((fbelow_new _ _).block _ (fb_lt HRX.out)).trans HRX.out
  obtain ⟨_, _, r2, e0, e1, a0, a1, a2, a3, _⟩ := rngsG_at keeps_fit HKa.out.rngs (Below.refl _ _) hgl
  cases e0
  obtain rfl := Option.some.inj (HG.out.symm.trans e1)
  simp only [Nat.zero_add] at a0 a1 a2 a3
  clear e1
  have cba := fun o => fb_cell HKa.out.b o
  have cra := fun o => fb_cell HRXa.out o
  have HRa : Hid (r.fit (U.alloc outObj0)) := HR.out.below (fbelow_new _ _)
  have HUa : Hid (utabs (U.alloc outObj0)) := utabs_below HU.out (fbelow_new _ _)
  have HBa : Hid (Below w.heap.size w (U.alloc outObj0)) := below_tr HB0.out (fbelow_new _ _)
  have HXa : Hid ((U.alloc outObj0).heap[U.heap.size]? = some outObj0) := heap_alloc_new _ _
  go_cut [7] (fun x v => ∃ X a q b p, x = .pointer (some ⟨X, 0, none⟩) ∧ Hid (v.heap[X]? = some (pOutO r.cap r.first a (r.rl + 1) q b r.cl p)) ∧ Hid (WK lo v B M ta tl tc (some ⟨rb, 0, none⟩) rl rc ea el ec now began puts ts rs es m D) ∧ Hid (OwnRing v U.heap.size a (r.rl + 1) q b r.cl p (rcs.map Value.string) (curCells r.curs)) ∧ Hid (Below w.heap.size w v))
  case first =>
    have D : Below U.heap.size U U.drew := (Below.refl _ _).drew
    have HD1 : Hid (Below U.heap.size U U.drew) := D
    have HD2 : Hid (Below U.heap.size U (U.drew.alloc outObj0)) := below_tr D (fbelow_new _ _)
    have HX2 : Hid ((U.drew.alloc outObj0).heap[U.heap.size]? = some outObj0) := heap_alloc_new U.drew outObj0
    have HS2 : Hid ((U.drew.alloc outObj0).heap.size = U.heap.size + 1) := show _ = _ by rw [World.size_alloc]; rfl
    have cbd : ∀ o, U.drew.cell? ⟨B, o, none⟩ = _ := cb
    have crd : ∀ o, U.drew.cell? ⟨w.heap.size, o, none⟩ = _ := cr
    have g0d : U.drew.cell? ⟨rb, g * 4, none⟩ = _ := g0
    have g1d : U.drew.cell? ⟨rb, g * 4 + 1, none⟩ = _ := g1
    have g2d : U.drew.cell? ⟨rb, g * 4 + 2, none⟩ = _ := g2
    have g3d : U.drew.cell? ⟨rb, g * 4 + 3, none⟩ = _ := g3
    have cbe : ∀ o, (U.drew.alloc outObj0).cell? ⟨B, o, none⟩ = _ := cba
    have cre : ∀ o, (U.drew.alloc outObj0).cell? ⟨w.heap.size, o, none⟩ = _ := cra
    have a0e : (U.drew.alloc outObj0).cell? ⟨rb, g * 4, none⟩ = _ := a0
    have a1e : (U.drew.alloc outObj0).cell? ⟨rb, g * 4 + 1, none⟩ = _ := a1
    have a2e : (U.drew.alloc outObj0).cell? ⟨rb, g * 4 + 2, none⟩ = _ := a2
    have a3e : (U.drew.alloc outObj0).cell? ⟨rb, g * 4 + 3, none⟩ = _ := a3
    clear D
    go_region_with (first
      | (go_at_call 184; refine (impl_ringPut r.recs r.curs k t d _ (HR.out.below HD1.out) HD.out (utabs_below HU.out HD1.out)).mono ?_; rintro x v ha; rw [HP.out] at ha; simp only [Answers, RO.ring, HRL.out.1, HRL.out.2] at ha; obtain ⟨a, q, b, p, rfl, ho, hb⟩ := ha; have HBU : Hid (Below U.heap.size U v) := below_tr HD1.out hb; have HOA : Hid (OwnRing v U.heap.size a (r.rl + 1) q b r.cl p (rcs.map Value.string) (curCells r.curs)) := ho; clear ho hb)
      | (go_at_call 184; refine (impl_ringPut r.recs r.curs k t d _ (HR.out.below HD2.out) HD.out (utabs_below HU.out HD2.out)).mono ?_; rintro x v ha; rw [HP.out] at ha; simp only [Answers, RO.ring, HRL.out.1, HRL.out.2] at ha; obtain ⟨a, q, b, p, rfl, ho, hb⟩ := ha; have HBU : Hid (Below U.heap.size U v) := below_tr HD2.out hb; rw [HS2.out] at ho; have HOB : Hid (OwnRing v (U.heap.size + 1) a (r.rl + 1) q b r.cl p (rcs.map Value.string) (curCells r.curs)) := ho; have HXV : Hid (v.heap[U.heap.size]? = some outObj0) := (hb.block _ (by rw [HS2.out]; omega)).trans HX2.out; have cxv := fun o => fb_cell HXV.out o; have fxv := fun o => unfrozen_of_block0 HXV.out o; clear ho hb))
    all_goals
      go_wp2_with fail
      go_meet
      first
        | (have h9 := HOA; exact ⟨_, a, q, b, p, rfl, heap_alloc_new _ _, HK.out.under (below_tr HBU.out (fbelow_new _ _)), ⟨own_below HOA.out.1 (fbelow_new _ _), own_below HOA.out.2 (fbelow_new _ _)⟩, below_tr HB0.out (below_tr HBU.out (fbelow_new _ _))⟩)
        | (have h9 := HOB; exact ⟨_, a, q, b, p, rfl, out_put8 v U.heap.size _ _ _ _ _ _ _ _ _ _ _ _ _ _ _ _ _ HXV.out, HK.out.under (below_set8 HBU.out U.heap.size (Nat.le_refl _) _ _ _ _ _ _ _ _), ⟨own_base (own_set8 HOB.out.1 U.heap.size (Nat.lt_succ_self _) _ _ _ _ _ _ _ _) (Nat.le_succ _), own_base (own_set8 HOB.out.2 U.heap.size (Nat.lt_succ_self _) _ _ _ _ _ _ _ _) (Nat.le_succ _)⟩, below_tr HB0.out (below_set8 HBU.out U.heap.size (Nat.le_refl _) _ _ _ _ _ _ _ _)⟩)
  case rest =>
  obtain ⟨X, a, q, b, p, rfl, HX, HK2, HO, HB2⟩ := hcut
  clear HKa HRXa HRa HUa HBa HXa cba cra a0 a1 a2 a3 g0 g1 g2 g3 cb cr HP
  have cx := fun o => fb_cell HX.out o
  have cb := fun o => fb_cell HK2.out.b o
  obtain ⟨_, _, r2, e0, e1, g0, g1, g2, g3, _⟩ := rngsG_at keeps_fit HK2.out.rngs (Below.refl _ _) hgl
  cases e0
  obtain rfl := Option.some.inj (HG.out.symm.trans e1)
  simp only [Nat.zero_add] at g0 g1 g2 g3
  clear e1
  go_wp2_with fail
  refine (impl_atWork (cap := r.cap) (first := r.first) (ra := r.ra) (rl := r.rl) (rc := r.rc) (ca := r.ca) (cl := r.cl) (cc := r.cc) _).mono ?_
  rintro e v ⟨rfl, hbv, hwk, hsz⟩
  obtain ⟨Y, hY⟩ : ∃ Y, wc.heap.size + 1 = Y := ⟨_, rfl⟩
  have HW : Hid (Work v Y r.cap r.first r.ra r.rl r.rc r.ca r.cl r.cc 0 0 0) := hY ▸ hwk
  have HBV : Hid (Below wc.heap.size wc v) := hbv
  rw [hY]
  clear hY hbv hwk hsz g0 g1 g2 g3 cb cx
  go_wp2_with fail
  refine (impl_end Y 0 0 0 v HW.out hF (by omega)).mono ?_
  rintro e v2 ⟨rfl, hb2⟩
  have HBW : Hid (Below wc.heap.size wc v2) := below_tr HBV.out hb2
  have HK3 : Hid (WK lo v2 B M ta tl tc (some ⟨rb, 0, none⟩) rl rc ea el ec now began puts ts rs es m D) := HK2.out.under HBW.out
  have HX3 : Hid (v2.heap[X]? = some (pOutO r.cap r.first a (r.rl + 1) q b r.cl p)) := (HBW.out.block _ (fb_lt HX.out)).trans HX.out
  have HO3 : Hid (OwnRing v2 U.heap.size a (r.rl + 1) q b r.cl p (rcs.map Value.string) (curCells r.curs)) := ⟨own_below HO.out.1 HBW.out, own_below HO.out.2 HBW.out⟩
  have HB3 : Hid (Below w.heap.size w v2) := below_tr HB2.out HBW.out
  clear hb2 HBV HBW HW HK2 HX HO HB2
  have cx := fun o => fb_cell HX3.out o
  have cb := fun o => fb_cell HK3.out.b o
  obtain ⟨_, _, r2, e0, e1, g0, g1, g2, g3, _⟩ := rngsG_at keeps_fit HK3.out.rngs (Below.refl _ _) hgl
  cases e0
  obtain rfl := Option.some.inj (HG.out.symm.trans e1)
  simp only [Nat.zero_add] at g0 g1 g2 g3
  have hfr := fun j => (HK3.out.r).frozenAt j
  have hfrd : ∀ j, v2.drew.frozen? _ = _ := hfr
  have cxd : ∀ o, v2.drew.cell? ⟨X, o, none⟩ = _ := cx
  have cbd : ∀ o, v2.drew.cell? ⟨B, o, none⟩ = _ := cb
  clear e1
  have hgl2 : g < rs.length := (List.getElem?_eq_some_iff.1 HG.out).1
  have HKs : Hid (WK lo (set4 v2.drew rb (g * 4) (.int .i64 r.cap) (.int .i64 r.first) (.slice a (r.rl + 1) q) (.slice b r.cl p)) B M ta tl tc (some ⟨rb, 0, none⟩) rl rc ea el ec now began puts ts (rs.set g ⟨r.cap, r.first, a, r.rl + 1, q, b, r.cl, p, rcs, r.curs⟩) es m D) :=
    (HK3.out.under ((Below.refl _ _).drew)).setR g hgl2 ⟨r.cap, r.first, a, r.rl + 1, q, b, r.cl, p, rcs, r.curs⟩ (RFit.below (own_fitR (n := r.rl + 1) (m := r.cl) HO3.out HSZ.out (by omega) (by omega)) ((Below.refl _ _).drew)) (fun Q hQ => ⟨off_new HO3.out.1 (HK.out.mine_lt hQ).2, off_new HO3.out.2 (HK.out.mine_lt hQ).2⟩)
  have hrb : lo ≤ rb := (HK3.out.mine_lt (X := rb) (.inr (.inr (.inr (.inl rfl))))).1
  have HBs : Hid (Below lo w (set4 v2.drew rb (g * 4) (.int .i64 r.cap) (.int .i64 r.first) (.slice a (r.rl + 1) q) (.slice b r.cl p))) :=
    (((((HB3.out.mono HLO.out).drew).setCell (p := ⟨rb, g * 4, none⟩) hrb _).setCell (p := ⟨rb, g * 4 + 1, none⟩) hrb _).setCell (p := ⟨rb, g * 4 + 2, none⟩) hrb _).setCell (p := ⟨rb, g * 4 + 3, none⟩) hrb _
  clear hgl2 hrb
  go_upto_region 7 with fail
  go_cut [] (fun wd => Hid (WK lo wd B M ta tl tc (some ⟨rb, 0, none⟩) rl rc ea el ec now began puts ts (rs.set g ⟨r.cap, r.first, a, r.rl + 1, q, b, r.cl, p, rcs, r.curs⟩) es m D) ∧ Hid (Below lo w wd))
  case first =>
    go_region
    all_goals
      go_wp2_with fail
      go_meet
      exact ⟨HKs, HBs⟩
  case rest =>
  obtain ⟨HK4, HB4⟩ := hcut
  clear HKs HBs HK3 HB3 HX3 HO3 cx cb cxd cbd g0 g1 g2 g3 hfr hfrd
  have cb := fun o => fb_cell HK4.out.b o
  have fb := fun o => unfrozen_of_block0 HK4.out.b o
  go_wp2_with fail
  refine (impl_addPuts B 6 puts _ (cb 6) (fb 6) (by omega)).mono ?_
  rintro x v ⟨rfl, hv⟩
  have HK5 : Hid (WK lo v B M ta tl tc (some ⟨rb, 0, none⟩) rl rc ea el ec now began (puts + 1) ts (rs.set g ⟨r.cap, r.first, a, r.rl + 1, q, b, r.cl, p, rcs, r.curs⟩) es m D) := by
    rw [hv]
    exact HK4.out.put (HK4.out.box 6 (.int .i64 (puts + 1))).1 (HK4.out.box 6 (.int .i64 (puts + 1))).2
  have HB5 : Hid (Below lo w v) := by
    rw [hv]
    exact HB4.out.setCell (p := ⟨B, 6, none⟩) HK4.out.lb _
  clear hv cb fb HK4 HB4
  go_wp2
  go_ret
  exact ⟨rfl, HB5.out, ⟨r.cap, r.first, a, r.rl + 1, q, b, r.cl, p, rcs, r.curs⟩, rfl, rfl, HK5.out⟩
end Go.Proofs.YtneiihikcnjglaaGreatDoor
/- The specification's Help. -/
namespace Go.Proofs.YtneiihikcnjglaaGreatDoor
open Go.RowKit Go.Maps
attribute [local go_sem ↓] Go.wp_at_zero Go.wp_at_succ
set_option linter.unusedSimpArgs false
set_option linter.unusedVariables false
theorem put_right {cap first : Int} {recs rcs : List ByteArray} {curs : List (Int × Int)} {k t : Int} {d : ByteArray} (h : putR cap first recs curs k t d = RO.ring cap first rcs curs) : ringRightB cap first recs curs = true ∧ recRightB k t d = true := by
  by_cases hh : ringRightB cap first recs curs = false ∨ recRightB k t d = false
  · unfold putR at h
    rw [if_pos hh] at h
    have := congrArg RO.c h
    simp [RO.ill, RO.ring] at this
  · cases h1 : ringRightB cap first recs curs <;> cases h2 : recRightB k t d <;> simp_all
theorem strip_some {α : Type} {f : α → α} {l l' : List α} (h : l'.map f = l.map f) {k : Nat} {t : α} (hk : l[k]? = some t) : ∃ t', l'[k]? = some t' ∧ f t' = f t := by
  have h1 : (l'.map f)[k]? = (l.map f)[k]? := by rw [h]
  rw [List.getElem?_map, List.getElem?_map, hk] at h1
  exact Option.map_eq_some_iff.1 h1
set_option maxRecDepth 100000 in
set_option maxHeartbeats 4000000 in
theorem spec_Help (ra : Option Addr) (rl rc : Nat) (ea : Option Addr) (el ec : Nat) (ta : Option Addr) (tl tc : Nat) (now : Int) (rs : List RD) (es : List Int) (ts : List TD) (w : World)
    (hi : FIn w ra rl ea el ta tl rs es ts) (hen : ea = none → el = 0 ∧ ec = 0) :
    Calls Tryz.prog 27 #[fabVal ra rl rc ea el ec ta tl tc now] w fun x w' => AnsT w w' (ftOf (fabRightB rs es ts now) (helpR rs es ts now)) x ∧ Below w.heap.size w w' := by
  have HI : Hid (FIn w ra rl ea el ta tl rs es ts) := hi
  have HEN : Hid (ea = none → el = 0 ∧ ec = 0) := hen
  have HS0 : Hid (T2 w ((w.alloc (fabO ra rl rc ea el ec ta tl tc now)).alloc (outO none 0 0 none 0 0 none 0 0 0 0 0)) (fabO ra rl rc ea el ec ta tl tc now) (outO none 0 0 none 0 0 none 0 0 0 0 0)) := t2_start ..
  have hle : w.heap.size ≤ w.heap.size + 1 := by omega
  have hrl := hi.rle
  have htl := hi.tle
  have HLT : Hid (ts.length = tl) := hi.ts.1
  clear hi hen
  obtain ⟨T, hT⟩ : ∃ T, ftOf (fabRightB rs es ts now) (helpR rs es ts now) = T := ⟨_, rfl⟩
  have HT : Hid (ftOf (fabRightB rs es ts now) (helpR rs es ts now) = T) := hT
  rw [hT]
  clear hT
  go_enter Tryz.func27, Tryz.ntmps27
  go_wp2_with fail
  refine (spec_fabricRight ra rl rc ea el ec ta tl tc now rs es ts _ (HI.out.below HS0.out.below)).mono ?_
  rintro x v1 ⟨rfl, hb1⟩
  have HS1 : Hid (T2 w v1 (fabO ra rl rc ea el ec ta tl tc now) (outO none 0 0 none 0 0 none 0 0 0 0 0)) := HS0.out.under hb1
  clear hb1 HS0
  have c0 := fun o => HS1.out.cell0 o
  have cy := fun o => HS1.out.cell1 o
  have fy := fun o => HS1.out.free1 o
  have HILL : Hid (∀ c : Int, T = ftIll c → ∀ (v2 : World) (v0 v1 v2' v3 v4 v5 : Value), T2 w v2 (fabO ra rl rc ea el ec ta tl tc now) (outO none 0 0 none 0 0 none 0 0 0 0 0) → AnsT w (set6 v2 (w.heap.size + 1) v0 v1 v2' v3 v4 v5) T (.returned (illV c)) ∧ Below w.heap.size w (set6 v2 (w.heap.size + 1) v0 v1 v2' v3 v4 v5)) := fun c hc v2 _ _ _ _ _ _ h2 => ⟨by rw [hc]; exact ansT_ill _ _ c, below_set6o h2.below hle _ _ _ _ _ _⟩
  cases hR : fabRightB rs es ts now with
  | false =>
    have HTI : Hid (T = ftIll 1) := show _ = _ by rw [← HT.out, hR]; rfl
    go_wp2_with fail
    refine (spec_oill 1 _).mono ?_
    rintro x v2 ⟨rfl, hb2⟩
    have HS2 : Hid (T2 w v2 (fabO ra rl rc ea el ec ta tl tc now) (outO none 0 0 none 0 0 none 0 0 0 0 0)) := HS1.out.under hb2
    clear hb2 HS1 c0 cy fy
    have cy := fun o => HS2.out.cell1 o
    have fy := fun o => HS2.out.free1 o
    go_wp2
    exact bodyPost_ret (v := illV 1) (by simp [results, Tryz.results27, go_sem, cy]) rfl (HILL.out 1 HTI.out _ _ _ _ _ _ _ HS2.out)
  | true =>
  have HR : Hid (fabRightB rs es ts now = true) := hR
  have hel : el = 4 := by have h1 := (right_sizes hR).2.2.1; have := HI.out.es.1; omega
  have ht12 : tl ≤ 12 := by have h1 := (right_sizes hR).2.2.2; have := HLT.out; omega
  subst hel
  clear hR
  have c0 := fun o => HS1.out.cell0 o
  go_wp2
  clear c0 cy fy
  go_loopw [3] (fun i wr => ∃ j : Nat, j ≤ tl ∧ i = .int .i64 j ∧ Hid (∀ (q : Nat) (u : TD), q < j → ts[q]? = some u → u.ls = []) ∧ Hid (T2 w wr (fabO ra rl rc ea 4 ec ta tl tc now) (outO none 0 0 none 0 0 none 0 0 0 0 0))) (fun i _ => tl - (intOf i).toNat)
  case atStart => exact ⟨0, by omega, rfl, (fun q u hq => by omega), HS1.out⟩
  case round =>
    clear HS1
    obtain ⟨j, hj, rfl, hbf, HS1⟩ := hrel
    have c0 := fun o => HS1.out.cell0 o
    by_cases hlt : j < tl
    case neg =>
      obtain rfl : j = tl := by omega
      have cy := fun o => HS1.out.cell1 o
      have fy := fun o => HS1.out.free1 o
      have HTI : Hid (T = ftIll 6) := show _ = _ by
        rw [← HT.out, HR.out, help_none fun t ht => ?_]
        · rfl
        · obtain ⟨i, hi, e⟩ := List.getElem_of_mem ht
          exact hbf.out i t (by have := HLT.out; omega) (by rw [List.getElem?_eq_getElem hi, e])
      go_wp2_with fail
      refine (spec_oill 6 _).mono ?_
      rintro x v2 ⟨rfl, hb2⟩
      have HS2 : Hid (T2 w v2 (fabO ra rl rc ea 4 ec ta j tc now) (outO none 0 0 none 0 0 none 0 0 0 0 0)) := HS1.out.under hb2
      clear hb2 HS1 c0 cy fy
      have cy := fun o => HS2.out.cell1 o
      have fy := fun o => HS2.out.free1 o
      go_wp2
      exact bodyPost_ret (v := illV 6) (by simp [results, Tryz.results27, go_sem, cy]) rfl (HILL.out 6 HTI.out _ _ _ _ _ _ _ HS2.out)
    case pos =>
    obtain ⟨tb, toff, t, hta, htk, g0, g1, g2, g3, g4, g5, hf⟩ := txsG_at keeps_tfit HI.out.ts HS1.out.below hlt
    subst hta
    have HTK : Hid (ts[j]? = some t) := htk
    have HFT : Hid (TFit wr t) := hf.out
    have hji : (j : Int) < (tl : Int) := by omega
    have hln : t.ls.length = t.ll := hf.out.l.nums.1
    have hwj : IntKind.i64.wrap ((j : Int) + 1) = (j : Int) + 1 := twrap_in _ (by omega) (by omega)
    cases hls : t.ls with
    | nil =>
      have hl0 : ((t.ll : Int) == 0) = true := by rw [hls] at hln; simp at hln; simp [← hln]
      have HB2 : Hid (∀ (q : Nat) (u : TD), q < j + 1 → ts[q]? = some u → u.ls = []) := fun q u hq hu => by
        by_cases e : q = j
        · subst e
          obtain rfl := Option.some.inj (htk.symm.trans hu)
          exact hls
        · exact hbf.out q u (by omega) hu
      have HS2 : Hid (T2 w (wr.alloc t.obj) (fabO ra rl rc ea 4 ec (some ⟨tb, toff, none⟩) tl tc now) (outO none 0 0 none 0 0 none 0 0 0 0 0)) := HS1.out.under (fbelow_new _ _)
      clear htk hf hln hls
      go_wp2
      exact ⟨⟨j + 1, by omega, by go_num, HB2.out, HS2.out⟩, by simp [intOf]; omega⟩
    | cons x ls =>
      obtain ⟨g, r, rfl, hg4, hrg, hput, hst, hup, hall⟩ := right_left HR.out htk hls
      have HTE : Hid (T = ⟨rs.set g (endRec r t.s j), es, ts.set j (saidT t ls), now, (j : Int) + 1, 0⟩) := show _ = _ by
        rw [← HT.out, HR.out, help_some htk hls (fun q u hq hu => hbf.out q u hq hu) hrg]
        rfl
      have hl0 : ((t.ll : Int) == 0) = false := by rw [hls] at hln; simp at hln; rw [beq_eq_false_iff_ne]; omega
      have hll : (0 : Int) < (t.ll : Int) := by rw [hls] at hln; simp at hln; omega
      have hllN : 0 < t.ll := by omega
      obtain ⟨X, hX⟩ : ∃ X, wr.heap.size = X := ⟨_, rfl⟩
      go_upto_region 8 with fail
      have HBU : Hid (Below w.heap.size w (wr.alloc t.obj)) := below_tr HS1.out.below (fbelow_new _ _)
      have HS2 : Hid (T2 w (wr.alloc t.obj) (fabO ra rl rc ea 4 ec (some ⟨tb, toff, none⟩) tl tc now) (outO none 0 0 none 0 0 none 0 0 0 0 0)) := HS1.out.under (fbelow_new _ _)
      have HTX : Hid ((wr.alloc t.obj).heap[X]? = some t.obj) := hX ▸ heap_alloc_new _ _
      have HFU : Hid (TFit (wr.alloc t.obj) t) := HFT.out.below (fbelow_new _ _)
      obtain ⟨U, hU⟩ : ∃ U, wr.alloc t.obj = U := ⟨_, rfl⟩
      rw [hU] at HBU HS2 HTX HFU
      rw [show wr.alloc (Obj.cells #[.int .i64 t.p, .int .i64 t.e, .int .i64 t.s, .int .i64 t.u, .slice t.ra t.rl t.rc, .slice t.la t.ll t.lc] 67) = U from hU]
      have HXZ : Hid (w.heap.size + 1 < X) := show _ < _ by have := HS1.out.size; rw [hX] at this; omega
      clear hX hU HS1 c0 g0 g1 g2 g3 g4 g5 HFT hf
      have hgr : g < rl := by have h1 := HI.out.rs.1; have h2 := (List.getElem?_eq_some_iff.1 hrg).1; omega
      obtain ⟨rb, roff, r1, hra, hr1, q0, q1, q2, q3, hrf⟩ := rngsG_at keeps_fit HI.out.rs HBU.out hgr
      subst hra
      obtain rfl := Option.some.inj (hrg.symm.trans hr1)
      obtain ⟨lb, loff, hla, hl0c⟩ := HFU.out.l.nums.2 0 (by rw [hls]; simp)
      have hlg : t.ls[0]'(by rw [hls]; simp) = (g : Int) := by simp [hls]
      rw [hlg] at hl0c
      simp only [Nat.add_zero] at hl0c
      have HRG : Hid (rs[g]? = some r) := hrg
      have HLS : Hid (t.ls = (g : Int) :: ls) := hls
      have HLA : Hid (t.la = some ⟨lb, loff, none⟩) := hla
      have HPUT : Hid _ := hput
      have HPR : Hid _ := put_right hput
      have HRF : Hid (r.fit U) := hrf.out
      have HRL : Hid ((r.recs ++ [recText t.s ((j : Int) + 1) ⟨#[]⟩]).length = r.rl + 1 ∧ r.curs.length = r.cl) := ⟨by rw [List.length_append, List.length_singleton]; have := hrf.out.str.strs.1; omega, hrf.out.cur.curs.1⟩
      have hgi : (g : Int) < (rl : Int) := by omega
      have c0 := fun o => HS2.out.cell0 o
      have ct : ∀ o, U.cell? ⟨X, o, none⟩ = (#[.int .i64 t.p, .int .i64 t.e, .int .i64 t.s, .int .i64 t.u, .slice t.ra t.rl t.rc, .slice (some ⟨lb, loff, none⟩) t.ll t.lc] : Array Value)[o]? := fun o => by rw [fb_cell HTX.out o, hla]
      clear hbf htk hln hls hrg hput hst hup hall hr1 hlg hla hrf hgr
      go_cut [5] (fun x v => ∃ Y a q b p, x = .pointer (some ⟨Y, 0, none⟩) ∧ Hid (v.heap[Y]? = some (pOutO r.cap r.first a (r.rl + 1) q b r.cl p)) ∧ Hid (Below U.heap.size U v) ∧ Hid (OwnRing v U.heap.size a (r.rl + 1) q b r.cl p ((r.recs ++ [recText t.s ((j : Int) + 1) ⟨#[]⟩]).map Value.string) (curCells r.curs)))
      case first =>
        have HD1 : Hid (Below U.heap.size U U.drew) := (Below.refl _ _).drew
        have HD2 : Hid (Below U.heap.size U (U.drew.alloc outObj0)) := below_tr HD1.out (fbelow_new _ _)
        have HX2 : Hid ((U.drew.alloc outObj0).heap[U.heap.size]? = some outObj0) := heap_alloc_new U.drew outObj0
        have HS3 : Hid ((U.drew.alloc outObj0).heap.size = U.heap.size + 1) := show _ = _ by rw [World.size_alloc]; rfl
        have HSK : Hid (∀ v, Below U.heap.size U v → (∀ o, v.cell? ⟨w.heap.size, o, none⟩ = (#[.slice (some ⟨rb, roff, none⟩) rl rc, .slice ea 4 ec, .slice (some ⟨tb, toff, none⟩) tl tc, .int .i64 now] : Array Value)[o]?) ∧ (∀ o, v.cell? ⟨X, o, none⟩ = (#[.int .i64 t.p, .int .i64 t.e, .int .i64 t.s, .int .i64 t.u, .slice t.ra t.rl t.rc, .slice (some ⟨lb, loff, none⟩) t.ll t.lc] : Array Value)[o]?) ∧ v.cell? ⟨lb, loff, none⟩ = some (.int .i64 (g : Int)) ∧ v.cell? ⟨rb, roff + g * 4, none⟩ = some (.int .i64 r.cap) ∧ v.cell? ⟨rb, roff + g * 4 + 1, none⟩ = some (.int .i64 r.first) ∧ v.cell? ⟨rb, roff + g * 4 + 2, none⟩ = some (.slice r.ra r.rl r.rc) ∧ v.cell? ⟨rb, roff + g * 4 + 3, none⟩ = some (.slice r.ca r.cl r.cc)) := fun v hv => ⟨fun o => (HS2.out.under hv).cell0 o, fun o => (hv.cell (p := ⟨X, o, none⟩) (fb_lt HTX.out)).trans (ct o), cell_below hl0c hv, cell_below q0 hv, cell_below q1 hv, cell_below q2 hv, cell_below q3 hv⟩
        clear c0 ct hl0c q0 q1 q2 q3
        refine wp_region_held_drew (S := (fun x => (∀ o, x.cell? ⟨w.heap.size, o, none⟩ = (#[.slice (some ⟨rb, roff, none⟩) rl rc, .slice ea 4 ec, .slice (some ⟨tb, toff, none⟩) tl tc, .int .i64 now] : Array Value)[o]?) ∧ (∀ o, x.cell? ⟨X, o, none⟩ = (#[.int .i64 t.p, .int .i64 t.e, .int .i64 t.s, .int .i64 t.u, .slice t.ra t.rl t.rc, .slice (some ⟨lb, loff, none⟩) t.ll t.lc] : Array Value)[o]?) ∧ x.cell? ⟨lb, loff, none⟩ = some (.int .i64 (g : Int)) ∧ x.cell? ⟨rb, roff + g * 4, none⟩ = some (.int .i64 r.cap) ∧ x.cell? ⟨rb, roff + g * 4 + 1, none⟩ = some (.int .i64 r.first) ∧ x.cell? ⟨rb, roff + g * 4 + 2, none⟩ = some (.slice r.ra r.rl r.rc) ∧ x.cell? ⟨rb, roff + g * 4 + 3, none⟩ = some (.slice r.ca r.cl r.cc))) (by kernel_rfl) (HSK.out _ HD1.out) (fun hHeld => ?_)
        refine tk (i := 0) (v := ?_) rfl hHeld (.inl ⟨by rfl, ?_⟩) ?_
        rotate_left
        · intro wy hSw; (try dsimp only at hSw); go_simp; (try with_reducible rfl)
        try simp only [Act.put, n1, n2, n3, n4, n5, n6]
        refine tk (i := 1) (v := ?_) rfl hHeld (.inl ⟨by rfl, ?_⟩) ?_
        rotate_left
        · intro wy hSw; (try dsimp only at hSw); go_simp; (try with_reducible rfl)
        try simp only [Act.put, n1, n2, n3, n4, n5, n6]
        refine tk (i := 2) (v := ?_) rfl hHeld (.inl ⟨by rfl, ?_⟩) ?_
        rotate_left
        · intro wy hSw; (try dsimp only at hSw); go_simp; (try with_reducible rfl)
        try simp only [Act.put, n1, n2, n3, n4, n5, n6]
        refine tk (i := 3) (v := ?_) rfl hHeld (.inl ⟨by rfl, ?_⟩) ?_
        rotate_left
        · intro wy hSw; (try dsimp only at hSw); go_simp; (try with_reducible rfl)
        try simp only [Act.put, n1, n2, n3, n4, n5, n6]
        refine tk (i := 4) (v := ?_) rfl hHeld (.inl ⟨by rfl, ?_⟩) ?_
        rotate_left
        · intro wy hSw; (try dsimp only at hSw); go_simp; (try with_reducible rfl)
        try simp only [Act.put, n1, n2, n3, n4, n5, n6]
        refine tk (i := 5) (v := ?_) rfl hHeld (.inl ⟨by rfl, ?_⟩) ?_
        rotate_left
        · intro wy hSw; (try dsimp only at hSw); go_simp; (try with_reducible rfl)
        try simp only [Act.put, n1, n2, n3, n4, n5, n6]
        refine tk (i := 6) (v := ?_) rfl hHeld (.inl ⟨by rfl, ?_⟩) ?_
        rotate_left
        · intro wy hSw; (try dsimp only at hSw); go_simp; (try with_reducible rfl)
        try simp only [Act.put, n1, n2, n3, n4, n5, n6]
        refine tk (i := 7) (v := ?_) rfl hHeld (.inl ⟨by rfl, ?_⟩) ?_
        rotate_left
        · intro wy hSw; (try dsimp only at hSw); go_simp; (try with_reducible rfl)
        try simp only [Act.put, n1, n2, n3, n4, n5, n6]
        refine tk (i := 8) (v := ?_) rfl hHeld (.inl ⟨by rfl, ?_⟩) ?_
        rotate_left
        · intro wy hSw; (try dsimp only at hSw); go_simp; (try with_reducible rfl)
        try simp only [Act.put, n1, n2, n3, n4, n5, n6]
        refine tk (i := 9) (v := ?_) rfl hHeld (.inl ⟨by rfl, ?_⟩) ?_
        rotate_left
        · intro wy hSw; (try dsimp only at hSw); go_simp; (try with_reducible rfl)
        try simp only [Act.put, n1, n2, n3, n4, n5, n6]
        refine tk (i := 10) (v := ?_) rfl hHeld (.inl ⟨by rfl, ?_⟩) ?_
        rotate_left
        · intro wy hSw; (try dsimp only at hSw); go_simp; (try with_reducible rfl)
        try simp only [Act.put, n1, n2, n3, n4, n5, n6]
        refine tk (i := 11) (v := ?_) rfl hHeld (.inl ⟨by rfl, ?_⟩) ?_
        rotate_left
        · intro wy hSw; (try dsimp only at hSw); go_simp; (try with_reducible rfl)
        try simp only [Act.put, n1, n2, n3, n4, n5, n6]
        refine tk (i := 12) (v := ?_) rfl hHeld (.inl ⟨by rfl, ?_⟩) ?_
        rotate_left
        · intro wy hSw; (try dsimp only at hSw); go_simp; (try with_reducible rfl)
        try simp only [Act.put, n1, n2, n3, n4, n5, n6]
        refine wpAnyH_ready (rs := [13, 14]) (by kernel_rfl) (by simp) ?_
        refine AllReadyH.cons rfl (fun K hK => ?_) (AllReadyH.cons rfl (fun K hK => ?_) AllReadyH.nil)
        · skip
          go_simp
          first | (refine (spec_lput r.recs r.curs t.s ((j : Int) + 1) ⟨#[]⟩ _ (HRF.out.below HD1.out) HPR.out.1 HPR.out.2).mono ?_; rintro x v ha; rw [HPUT.out] at ha; simp only [Answers, RO.ring, HRL.out.1, HRL.out.2] at ha; obtain ⟨a, q, b, p, rfl, ho, hb⟩ := ha; have HBV : Hid (Below U.heap.size U v) := below_tr HD1.out hb; have HOA : Hid (OwnRing v (U.heap.size) a (r.rl + 1) q b r.cl p ((r.recs ++ [recText t.s ((j : Int) + 1) ⟨#[]⟩]).map Value.string) (curCells r.curs)) := ho; clear ho hb) | (refine (spec_lput r.recs r.curs t.s ((j : Int) + 1) ⟨#[]⟩ _ (HRF.out.below HD2.out) HPR.out.1 HPR.out.2).mono ?_; rintro x v ha; rw [HPUT.out] at ha; simp only [Answers, RO.ring, HRL.out.1, HRL.out.2] at ha; obtain ⟨a, q, b, p, rfl, ho, hb⟩ := ha; have HBV : Hid (Below U.heap.size U v) := below_tr HD2.out hb; rw [HS3.out] at ho; have HOB : Hid (OwnRing v (U.heap.size + 1) a (r.rl + 1) q b r.cl p ((r.recs ++ [recText t.s ((j : Int) + 1) ⟨#[]⟩]).map Value.string) (curCells r.curs)) := ho; have HXV : Hid (v.heap[U.heap.size]? = some outObj0) := (hb.block _ (by rw [HS3.out]; omega)).trans HX2.out; have cxv := fun o => fb_cell HXV.out o; have fxv := fun o => unfrozen_of_block0 HXV.out o; clear ho hb)
          go_wp2_with fail
          refine hK.out _ _ ?_ (fun hHeld => ?_)
          · exact HSK.out _ HBV.out
          clear hK K
          try simp only [Act.put, n1, n2, n3, n4, n5, n6]
          refine wpAnyH_ready (rs := [14]) (by kernel_rfl) (by simp) ?_
          refine AllReadyH.cons rfl (fun K hK => ?_) AllReadyH.nil
          go_simp
          refine hK.out _ _ ?_ (fun hHeld => ?_)
          · first | exact HSK.out _ (below_tr HBV.out (fbelow_new _ _)) | exact HSK.out _ HD2.out
          clear hK K
          try simp only [Act.put, n1, n2, n3, n4, n5, n6]
          refine wpAnyH_ready (rs := [15]) (by kernel_rfl) (by simp) ?_
          refine AllReadyH.cons rfl (fun K hK => ?_) AllReadyH.nil
          go_simp
          refine hK.out _ _ ?_ (fun hHeld => ?_)
          · first | (have h9 := HOA; exact HSK.out _ (below_tr HBV.out (fbelow_new _ _))) | (have h9 := HOB; exact HSK.out _ (below_set8 HBV.out U.heap.size (Nat.le_refl _) _ _ _ _ _ _ _ _))
          clear hK K
          try simp only [Act.put, n1, n2, n3, n4, n5, n6]
          refine wpAnyH_done (by kernel_rfl) ?_ _
          go_wp2_with fail
          go_meet
          first
            | (have h9 := HOA; exact ⟨_, a, q, b, p, rfl, heap_alloc_new _ _, below_tr HBV.out (fbelow_new _ _), ⟨own_below HOA.out.1 (fbelow_new _ _), own_below HOA.out.2 (fbelow_new _ _)⟩⟩)
            | (have h9 := HOB; exact ⟨_, a, q, b, p, rfl, out_put8 v U.heap.size _ _ _ _ _ _ _ _ _ _ _ _ _ _ _ _ _ HXV.out, below_set8 HBV.out U.heap.size (Nat.le_refl _) _ _ _ _ _ _ _ _, ⟨own_base (own_set8 HOB.out.1 U.heap.size (Nat.lt_succ_self _) _ _ _ _ _ _ _ _) (Nat.le_succ _), own_base (own_set8 HOB.out.2 U.heap.size (Nat.lt_succ_self _) _ _ _ _ _ _ _ _) (Nat.le_succ _)⟩⟩)
        · skip
          go_simp
          refine hK.out _ _ ?_ (fun hHeld => ?_)
          · first | exact HSK.out _ (below_tr HBV.out (fbelow_new _ _)) | exact HSK.out _ HD2.out
          clear hK K
          try simp only [Act.put, n1, n2, n3, n4, n5, n6]
          refine wpAnyH_ready (rs := [13]) (by kernel_rfl) (by simp) ?_
          refine AllReadyH.cons rfl (fun K hK => ?_) AllReadyH.nil
          go_simp
          first | (refine (spec_lput r.recs r.curs t.s ((j : Int) + 1) ⟨#[]⟩ _ (HRF.out.below HD1.out) HPR.out.1 HPR.out.2).mono ?_; rintro x v ha; rw [HPUT.out] at ha; simp only [Answers, RO.ring, HRL.out.1, HRL.out.2] at ha; obtain ⟨a, q, b, p, rfl, ho, hb⟩ := ha; have HBV : Hid (Below U.heap.size U v) := below_tr HD1.out hb; have HOA : Hid (OwnRing v (U.heap.size) a (r.rl + 1) q b r.cl p ((r.recs ++ [recText t.s ((j : Int) + 1) ⟨#[]⟩]).map Value.string) (curCells r.curs)) := ho; clear ho hb) | (refine (spec_lput r.recs r.curs t.s ((j : Int) + 1) ⟨#[]⟩ _ (HRF.out.below HD2.out) HPR.out.1 HPR.out.2).mono ?_; rintro x v ha; rw [HPUT.out] at ha; simp only [Answers, RO.ring, HRL.out.1, HRL.out.2] at ha; obtain ⟨a, q, b, p, rfl, ho, hb⟩ := ha; have HBV : Hid (Below U.heap.size U v) := below_tr HD2.out hb; rw [HS3.out] at ho; have HOB : Hid (OwnRing v (U.heap.size + 1) a (r.rl + 1) q b r.cl p ((r.recs ++ [recText t.s ((j : Int) + 1) ⟨#[]⟩]).map Value.string) (curCells r.curs)) := ho; have HXV : Hid (v.heap[U.heap.size]? = some outObj0) := (hb.block _ (by rw [HS3.out]; omega)).trans HX2.out; have cxv := fun o => fb_cell HXV.out o; have fxv := fun o => unfrozen_of_block0 HXV.out o; clear ho hb)
          go_wp2_with fail
          refine hK.out _ _ ?_ (fun hHeld => ?_)
          · exact HSK.out _ HBV.out
          clear hK K
          try simp only [Act.put, n1, n2, n3, n4, n5, n6]
          refine wpAnyH_ready (rs := [15]) (by kernel_rfl) (by simp) ?_
          refine AllReadyH.cons rfl (fun K hK => ?_) AllReadyH.nil
          go_simp
          refine hK.out _ _ ?_ (fun hHeld => ?_)
          · first | (have h9 := HOA; exact HSK.out _ (below_tr HBV.out (fbelow_new _ _))) | (have h9 := HOB; exact HSK.out _ (below_set8 HBV.out U.heap.size (Nat.le_refl _) _ _ _ _ _ _ _ _))
          clear hK K
          try simp only [Act.put, n1, n2, n3, n4, n5, n6]
          refine wpAnyH_done (by kernel_rfl) ?_ _
          go_wp2_with fail
          go_meet
          first
            | (have h9 := HOA; exact ⟨_, a, q, b, p, rfl, heap_alloc_new _ _, below_tr HBV.out (fbelow_new _ _), ⟨own_below HOA.out.1 (fbelow_new _ _), own_below HOA.out.2 (fbelow_new _ _)⟩⟩)
            | (have h9 := HOB; exact ⟨_, a, q, b, p, rfl, out_put8 v U.heap.size _ _ _ _ _ _ _ _ _ _ _ _ _ _ _ _ _ HXV.out, below_set8 HBV.out U.heap.size (Nat.le_refl _) _ _ _ _ _ _ _ _, ⟨own_base (own_set8 HOB.out.1 U.heap.size (Nat.lt_succ_self _) _ _ _ _ _ _ _ _) (Nat.le_succ _), own_base (own_set8 HOB.out.2 U.heap.size (Nat.lt_succ_self _) _ _ _ _ _ _ _ _) (Nat.le_succ _)⟩⟩)
      case rest =>
      obtain ⟨Y, a, q, b, p, rfl, HY, HBV, HO⟩ := hcut
      have HSc : Hid (T2 w wc (fabO (some ⟨rb, roff, none⟩) rl rc ea 4 ec (some ⟨tb, toff, none⟩) tl tc now) (outO none 0 0 none 0 0 none 0 0 0 0 0)) := HS2.out.under HBV.out
      have HXc : Hid (wc.heap[X]? = some t.obj) := (HBV.out.block _ (fb_lt HTX.out)).trans HTX.out
      have HFc : Hid (TFit wc t) := HFU.out.below HBV.out
      have HLc : Hid (wc.cell? ⟨lb, loff, none⟩ = some (.int .i64 (g : Int))) := cell_below hl0c HBV.out
      have HOW : Hid (RD.own (⟨r.cap, r.first, a, r.rl + 1, q, b, r.cl, p, (r.recs ++ [recText t.s ((j : Int) + 1) ⟨#[]⟩]), r.curs⟩ : RD) wc w.heap.size) := ⟨own_base HO.out.1 HBU.out.size, own_base HO.out.2 HBU.out.size⟩
      have hcy := fun o => fb_cell HY.out o
      have c0c := fun o => HSc.out.cell0 o
      have hrl3 := HI.out.rle
      clear c0 ct hl0c q0 q1 q2 q3 HS2 HBV HBU HTX HFU HRF HPUT HPR HO
      go_wp2_with fail
      refine (spec_fcopy (some ⟨rb, roff, none⟩) rl rc ea 4 ec (some ⟨tb, toff, none⟩) tl tc now rs es ts _ (HI.out.below HSc.out.below) HEN.out).mono ?_
      rintro x v3 ⟨d, rfl, hod, hdr, hde, hdt, hdrl, hdel, hdtl, hb3⟩
      have K3 : Hid (OB w (v3.alloc (fabO d.ra d.rl d.rc d.ea d.el d.ec d.ta d.tl d.tc now)) (fabO (some ⟨rb, roff, none⟩) rl rc ea 4 ec (some ⟨tb, toff, none⟩) tl tc now) v3.heap.size now d) := ob_new HSc.out.below ⟨_, rfl⟩ HSc.out.b0 HSc.out.b1 hb3 hod
      have HB3 : Hid (Below wc.heap.size wc (v3.alloc (fabO d.ra d.rl d.rc d.ea d.el d.ec d.ta d.tl d.tc now))) := below_tr hb3 (fbelow_new _ _)
      have HOD : Hid (d.own v3 wc.heap.size) := hod
      have HDS : Hid (d.rs.map RD.strip = rs.map RD.strip ∧ d.es = es ∧ d.ts.map TD.strip = ts.map TD.strip) := ⟨hdr, hde, hdt⟩
      have HDL : Hid (d.rl = rl ∧ d.tl = tl) := ⟨hdrl, hdtl⟩
      clear hod hdr hde hdt hdrl hdel hdtl hb3 hcy c0c
      obtain ⟨Z, hZ⟩ : ∃ Z, v3.heap.size = Z := ⟨_, rfl⟩
      rw [hZ] at K3
      go_upto_region 12 with fail
      clear hZ
      have HX3 : Hid ((v3.alloc (fabO d.ra d.rl d.rc d.ea d.el d.ec d.ta d.tl d.tc now)).heap[X]? = some t.obj) := (HB3.out.block _ (fb_lt HXc.out)).trans HXc.out
      have HY3 : Hid ((v3.alloc (fabO d.ra d.rl d.rc d.ea d.el d.ec d.ta d.tl d.tc now)).heap[Y]? = some (pOutO r.cap r.first a (r.rl + 1) q b r.cl p)) := (HB3.out.block _ (fb_lt HY.out)).trans HY.out
      have HL3 : Hid ((v3.alloc (fabO d.ra d.rl d.rc d.ea d.el d.ec d.ta d.tl d.tc now)).cell? ⟨lb, loff, none⟩ = some (.int .i64 (g : Int))) := cell_below HLc.out HB3.out
      have HF3 : Hid (TFit (v3.alloc (fabO d.ra d.rl d.rc d.ea d.el d.ec d.ta d.tl d.tc now)) t) := HFc.out.below HB3.out
      have HN3 : Hid (RD.own (⟨r.cap, r.first, a, r.rl + 1, q, b, r.cl, p, (r.recs ++ [recText t.s ((j : Int) + 1) ⟨#[]⟩]), r.curs⟩ : RD) (v3.alloc (fabO d.ra d.rl d.rc d.ea d.el d.ec d.ta d.tl d.tc now)) w.heap.size) := ⟨own_below HOW.out.1 HB3.out, own_below HOW.out.2 HB3.out⟩
      have HND : Hid (∀ y ∈ RD.blks (⟨r.cap, r.first, a, r.rl + 1, q, b, r.cl, p, (r.recs ++ [recText t.s ((j : Int) + 1) ⟨#[]⟩]), r.curs⟩ : RD), y ∉ fabBlks d.rs d.ts d.ea) := fun y hy hf => by
        have h1 := (RD.own.lt HOW.out hy).2
        have h2 := (OwnFab.lt HOD.out hf).1
        omega
      obtain ⟨U2, hU2⟩ : ∃ U, v3.alloc (fabO d.ra d.rl d.rc d.ea d.el d.ec d.ta d.tl d.tc now) = U := ⟨_, rfl⟩
      have HXlt : Hid (X < wc.heap.size) := fb_lt HXc.out
      have HLW : Hid (∀ y, blk? d.ra = some y ∨ blk? d.ta = some y → wc.heap.size ≤ y) := fun y hy => hy.elim (fun h => (own_blk_lt HOD.out.r h).1) (fun h => (own_blk_lt HOD.out.t h).1)
      rw [hU2] at K3 HX3 HY3 HL3 HF3 HN3 ⊢
      clear hU2 HB3 HOD HLc HOW HXc HY HSc v3
      obtain ⟨r0, hr0, hrs0⟩ := strip_some HDS.out.1 HRG.out
      obtain ⟨rb2, hra2⟩ := own_nform K3.out.own.r (by have := HDL.out.1; omega)
      have HR0 : Hid (d.rs[g]? = some r0 ∧ r0.strip = r.strip) := ⟨hr0, hrs0⟩
      have HRA : Hid (d.ra = some ⟨rb2, 0, none⟩) := hra2
      have hgd : (g : Int) < (d.rl : Int) := by have := HDL.out.1; omega
      have hgl3 : g < d.rs.length := (List.getElem?_eq_some_iff.1 hr0).1
      have hrow := K3.out.own.r
      rw [hra2] at hrow
      have hcr : ∀ j, j < 4 → U2.cell? ⟨rb2, g * 4 + j, none⟩ = r0.cells[j]? := fun j hj => by
        rw [hrow.cellAt (g * 4 + j) (by omega), rdCells_at d.rs g j hgl3 hj, (List.getElem?_eq_some_iff.1 hr0).2]
      have k0 : U2.cell? ⟨rb2, g * 4, none⟩ = some (.int .i64 r0.cap) := by rw [← Nat.add_zero (g * 4)]; exact hcr 0 (by omega)
      have k1 : U2.cell? ⟨rb2, g * 4 + 1, none⟩ = some (.int .i64 r0.first) := hcr 1 (by omega)
      have k2 : U2.cell? ⟨rb2, g * 4 + 2, none⟩ = some (.slice r0.ra r0.rl r0.rc) := hcr 2 (by omega)
      have k3 : U2.cell? ⟨rb2, g * 4 + 3, none⟩ = some (.slice r0.ca r0.cl r0.cc) := hcr 3 (by omega)
      have hfz := fun j => hrow.frozenAt j
      have HX3d : Hid (U2.heap[X]? = some t.obj) := HX3.out
      have hXr : some X ≠ some rb2 := fun e => own_ne hrow HX3.out (by decide) (by rw [e]; rfl)
      have hYr : some Y ≠ some rb2 := fun e => own_ne hrow HY3.out (by decide) (by rw [e]; rfl)
      have hLB : wc.heap.size ≤ rb2 := HLW.out rb2 (.inl (by rw [hra2]; rfl))
      have hG4 := grown_set4 U2 rb2 (g * 4) (.int .i64 r.cap) (.int .i64 r.first) (.slice a (r.rl + 1) q) (.slice b r.cl p)
      have hoff : t.off rb2 := ⟨fun x e he => by have := HFc.out.r.lt x e; omega, fun x e he => by have := HFc.out.l.lt x e; omega⟩
      obtain ⟨W4, hW4⟩ : ∃ W, set4 U2 rb2 (g * 4) (.int .i64 r.cap) (.int .i64 r.first) (.slice a (r.rl + 1) q) (.slice b r.cl p) = W := ⟨_, rfl⟩
      rw [hW4] at hG4
      have K4 : Hid (OB w W4 (fabO (some ⟨rb, roff, none⟩) rl rc ea 4 ec (some ⟨tb, toff, none⟩) tl tc now) Z now (d.setR g (⟨r.cap, r.first, a, r.rl + 1, q, b, r.cl, p, (r.recs ++ [recText t.s ((j : Int) + 1) ⟨#[]⟩]), r.curs⟩ : RD))) := by
        rw [← hW4]
        exact K3.out.putR2 hra2 hr0 HN3.out HND.out
      have HX4 : Hid (W4.heap[X]? = some t.obj) := (hG4.block _ (fb_lt HX3d.out) hXr).trans HX3d.out
      have HY4 : Hid (W4.heap[Y]? = some (pOutO r.cap r.first a (r.rl + 1) q b r.cl p)) := (hG4.block _ (fb_lt HY3.out) hYr).trans HY3.out
      have HF4 : Hid (TFit W4 t) := HF3.out.grown hG4 hoff
      have HL4 : Hid (W4.cell? ⟨lb, loff, none⟩ = some (.int .i64 (g : Int))) := by
        obtain ⟨lb2, loff2, e2, hc2⟩ := HF4.out.l.nums.2 0 (by rw [HLS.out]; simp)
        rw [HLA.out] at e2
        cases e2
        rw [show t.ls[0]'(by rw [HLS.out]; simp) = (g : Int) by simp [HLS.out]] at hc2
        exact hc2
      have HW4 : Hid (set4 U2 rb2 (g * 4) (.int .i64 r.cap) (.int .i64 r.first) (.slice a (r.rl + 1) q) (.slice b r.cl p) = W4) := hW4
      have HSZ : Hid (∀ o, U2.cell? ⟨Z, o, none⟩ = (#[.slice (some ⟨rb2, 0, none⟩) d.rl d.rc, .slice d.ea d.el d.ec, .slice d.ta d.tl d.tc, .int .i64 now] : Array Value)[o]?) := fun o => by rw [fb_cell K3.out.z o, hra2]
      have HSZ4 : Hid (∀ o, W4.cell? ⟨Z, o, none⟩ = (#[.slice (some ⟨rb2, 0, none⟩) d.rl d.rc, .slice d.ea d.el d.ec, .slice d.ta d.tl d.tc, .int .i64 now] : Array Value)[o]?) := fun o => (fb_cell K4.out.z o).trans (by show (#[.slice d.ra d.rl d.rc, .slice d.ea d.el d.ec, .slice d.ta d.tl d.tc, .int .i64 now] : Array Value)[o]? = _; rw [hra2])
      have HSX : Hid (∀ u : World, u.heap[X]? = some t.obj → ∀ o, u.cell? ⟨X, o, none⟩ = (#[.int .i64 t.p, .int .i64 t.e, .int .i64 t.s, .int .i64 t.u, .slice t.ra t.rl t.rc, .slice (some ⟨lb, loff, none⟩) t.ll t.lc] : Array Value)[o]?) := fun u hu o => by rw [fb_cell hu o, HLA.out]
      have HS4 : Hid ((∀ o, (set4 U2 rb2 (g * 4) (.int .i64 r.cap) (.int .i64 r.first) (.slice a (r.rl + 1) q) (.slice b r.cl p)).cell? ⟨Z, o, none⟩ = (#[.slice (some ⟨rb2, 0, none⟩) d.rl d.rc, .slice d.ea d.el d.ec, .slice d.ta d.tl d.tc, .int .i64 now] : Array Value)[o]?) ∧ (∀ o, (set4 U2 rb2 (g * 4) (.int .i64 r.cap) (.int .i64 r.first) (.slice a (r.rl + 1) q) (.slice b r.cl p)).cell? ⟨X, o, none⟩ = (#[.int .i64 t.p, .int .i64 t.e, .int .i64 t.s, .int .i64 t.u, .slice t.ra t.rl t.rc, .slice (some ⟨lb, loff, none⟩) t.ll t.lc] : Array Value)[o]?) ∧ (set4 U2 rb2 (g * 4) (.int .i64 r.cap) (.int .i64 r.first) (.slice a (r.rl + 1) q) (.slice b r.cl p)).cell? ⟨lb, loff, none⟩ = some (.int .i64 (g : Int)) ∧ (∀ o, (set4 U2 rb2 (g * 4) (.int .i64 r.cap) (.int .i64 r.first) (.slice a (r.rl + 1) q) (.slice b r.cl p)).cell? ⟨Y, o, none⟩ = (#[.int .i64 r.cap, .int .i64 r.first, .slice a (r.rl + 1) q, .slice b r.cl p, .int .i64 0, .int .i64 0, .string ⟨#[]⟩, .int .i64 0] : Array Value)[o]?)) := by
        rw [hW4]
        exact ⟨HSZ4.out, HSX.out _ HX4.out, HL4.out, fun o => fb_cell HY4.out o⟩
      clear hr0 hrs0 hra2 hrow hcr hXr hYr hLB hG4 hoff hW4 hgl3
      go_cut [] (fun wd => Hid (wd = W4.drew))
      case first =>
        refine wp_region_held_drew (S := (fun x => (∀ o, x.cell? ⟨Z, o, none⟩ = (#[.slice (some ⟨rb2, 0, none⟩) d.rl d.rc, .slice d.ea d.el d.ec, .slice d.ta d.tl d.tc, .int .i64 now] : Array Value)[o]?) ∧ (∀ o, x.cell? ⟨X, o, none⟩ = (#[.int .i64 t.p, .int .i64 t.e, .int .i64 t.s, .int .i64 t.u, .slice t.ra t.rl t.rc, .slice (some ⟨lb, loff, none⟩) t.ll t.lc] : Array Value)[o]?) ∧ x.cell? ⟨lb, loff, none⟩ = some (.int .i64 (g : Int)) ∧ (∀ o, x.cell? ⟨Y, o, none⟩ = (#[.int .i64 r.cap, .int .i64 r.first, .slice a (r.rl + 1) q, .slice b r.cl p, .int .i64 0, .int .i64 0, .string ⟨#[]⟩, .int .i64 0] : Array Value)[o]?))) (by kernel_rfl) (⟨HSZ.out, HSX.out _ HX3d.out, HL3.out, fun o => fb_cell (show U2.drew.heap[Y]? = _ from HY3.out) o⟩) (fun hHeld => ?_)
        refine tk (i := 0) (v := ?_) rfl hHeld (.inl ⟨by rfl, ?_⟩) ?_
        rotate_left
        · intro wy hSw; (try dsimp only at hSw); go_simp; (try with_reducible rfl)
        try simp only [Act.put, n1, n2, n3, n4, n5, n6]
        refine tk (i := 1) (v := ?_) rfl hHeld (.inl ⟨by rfl, ?_⟩) ?_
        rotate_left
        · intro wy hSw; (try dsimp only at hSw); go_simp; (try with_reducible rfl)
        try simp only [Act.put, n1, n2, n3, n4, n5, n6]
        refine tk (i := 2) (v := ?_) rfl hHeld (.inl ⟨by rfl, ?_⟩) ?_
        rotate_left
        · intro wy hSw; (try dsimp only at hSw); go_simp; (try with_reducible rfl)
        try simp only [Act.put, n1, n2, n3, n4, n5, n6]
        refine tk (i := 3) (v := ?_) rfl hHeld (.inl ⟨by rfl, ?_⟩) ?_
        rotate_left
        · intro wy hSw; (try dsimp only at hSw); go_simp; (try with_reducible rfl)
        try simp only [Act.put, n1, n2, n3, n4, n5, n6]
        refine tk (i := 4) (v := ?_) rfl hHeld (.inl ⟨by rfl, ?_⟩) ?_
        rotate_left
        · intro wy hSw; (try dsimp only at hSw); go_simp; (try with_reducible rfl)
        try simp only [Act.put, n1, n2, n3, n4, n5, n6]
        refine tk (i := 5) (v := ?_) rfl hHeld (.inl ⟨by rfl, ?_⟩) ?_
        rotate_left
        · intro wy hSw; (try dsimp only at hSw); go_simp; (try with_reducible rfl)
        try simp only [Act.put, n1, n2, n3, n4, n5, n6]
        refine tk (i := 6) (v := ?_) rfl hHeld (.inl ⟨by rfl, ?_⟩) ?_
        rotate_left
        · intro wy hSw; (try dsimp only at hSw); go_simp; (try with_reducible rfl)
        try simp only [Act.put, n1, n2, n3, n4, n5, n6]
        refine tk (i := 7) (v := ?_) rfl hHeld (.inl ⟨by rfl, ?_⟩) ?_
        rotate_left
        · intro wy hSw; (try dsimp only at hSw); go_simp; (try with_reducible rfl)
        try simp only [Act.put, n1, n2, n3, n4, n5, n6]
        refine tk (i := 8) (v := ?_) rfl hHeld (.inl ⟨by rfl, ?_⟩) ?_
        rotate_left
        · intro wy hSw; (try dsimp only at hSw); go_simp; (try with_reducible rfl)
        try simp only [Act.put, n1, n2, n3, n4, n5, n6]
        refine wpAnyH_ready (rs := [9]) (by kernel_rfl) (by simp) ?_
        refine AllReadyH.cons rfl (fun K hK => ?_) AllReadyH.nil
        go_simp
        refine hK.out _ _ ?_ (fun hHeld => ?_)
        · exact HS4.out
        clear hK K
        try simp only [Act.put, n1, n2, n3, n4, n5, n6]
        refine wpAnyH_done (by kernel_rfl) ?_ _
        go_wp2_with fail
        go_meet
        exact congrArg World.drew HW4.out
      case rest =>
      have hwd := hcut.out
      subst hwd
      clear hcut HW4 K3 HX3 HX3d HY3 HY4 HF3 HN3 HND HSZ k0 k1 k2 k3 hfz HFc
      go_upto_region 13 with fail
      obtain ⟨t0, ht0, hts0⟩ := strip_some HDS.out.2.2 HTK.out
      obtain ⟨tb2, hta2⟩ := own_nform K4.out.own.t (show 0 < d.tl by have := HDL.out.2; omega)
      have hta3 : d.ta = some ⟨tb2, 0, none⟩ := hta2
      have HT0 : Hid ((d.setR g (⟨r.cap, r.first, a, r.rl + 1, q, b, r.cl, p, (r.recs ++ [recText t.s ((j : Int) + 1) ⟨#[]⟩]), r.curs⟩ : RD)).ts[j]? = some t0 ∧ t0.strip = t.strip) := ⟨ht0, hts0⟩
      have HTA : Hid ((d.setR g (⟨r.cap, r.first, a, r.rl + 1, q, b, r.cl, p, (r.recs ++ [recText t.s ((j : Int) + 1) ⟨#[]⟩]), r.curs⟩ : RD)).ta = some ⟨tb2, 0, none⟩) := hta2
      have hjd : (j : Int) < (d.tl : Int) := by have := HDL.out.2; omega
      obtain ⟨W5, hW5⟩ : ∃ W, W4.drew = W := ⟨_, rfl⟩
      have K5 : Hid (OB w W5 (fabO (some ⟨rb, roff, none⟩) rl rc ea 4 ec (some ⟨tb, toff, none⟩) tl tc now) Z now (d.setR g (⟨r.cap, r.first, a, r.rl + 1, q, b, r.cl, p, (r.recs ++ [recText t.s ((j : Int) + 1) ⟨#[]⟩]), r.curs⟩ : RD))) := hW5 ▸ K4.out.under ((Below.refl _ _).drew)
      have HX5 : Hid (W5.heap[X]? = some t.obj) := hW5 ▸ HX4.out
      have HF5 : Hid (TFit W5 t) := hW5 ▸ HF4.out.below ((Below.refl _ _).drew)
      have HZ5 : Hid (∀ o, W5.cell? ⟨Z, o, none⟩ = (#[.slice (some ⟨rb2, 0, none⟩) d.rl d.rc, .slice d.ea d.el d.ec, .slice (some ⟨tb2, 0, none⟩) d.tl d.tc, .int .i64 now] : Array Value)[o]?) := fun o => by
        have h := HSZ4.out o
        rw [hta3] at h
        rw [← hW5]
        exact h
      rw [hW5]
      clear hW5 K4 HX4 HF4 HL4 HSZ4 ht0 hts0 hta2 hta3 HR0
      have hcap : t.ll ≤ t.lc := HF5.out.l.cap
      have hll1 : (1 : Int) ≤ (t.ll : Int) := by omega
      have hlle : t.ll ≤ 1048576 := HF5.out.lle
      have HLE : Hid (ls.length = t.ll - 1) := (show _ = _ by have h := HF5.out.l.nums.1; rw [HLS.out] at h; simp at h; omega)
      obtain ⟨j0, hj0, hy0, hy1, hy2⟩ := info_parts info_i64
      have HROW : Hid ((W5.drew.alloc (.cells #[] 2 (0, 0))).ownsRow W5.heap.size 2 1 (.slice (some ⟨W5.heap.size, 0, none⟩) 0 0) 0 []) := t_row W5.drew _ _
      have HBA : Hid (Below W5.heap.size W5 (W5.drew.alloc (.cells #[] 2 (0, 0)))) := below_tr ((Below.refl _ _).drew) (fbelow_new _ _)
      have hlcm : t.lc ≤ maxLen := HF5.out.lcm
      unfold maxLen at hlcm
      have HNU : Hid (∀ o2 : Nat, (o2 = loff + 1 ∨ t.ll = 1) → Nums W5 (some ⟨lb, o2, none⟩) (t.ll - 1) ls) := fun o2 ho2 => by
        have hn := HF5.out.l.nums
        have hln := hn.1
        rw [HLS.out] at hln
        simp at hln
        refine ⟨by omega, fun i hi => ⟨lb, o2, rfl, ?_⟩⟩
        obtain ⟨lb2, loff2, e2, hc2⟩ := hn.2 (i + 1) (by rw [HLS.out]; simp; omega)
        rw [HLA.out] at e2
        cases e2
        have he : t.ls[i + 1]'(by rw [HLS.out]; simp; omega) = ls[i] := by simp [HLS.out]
        rw [he] at hc2
        rw [show o2 + i = loff + (i + 1) by omega]
        exact hc2
      have HS5 : Hid (∀ u : World, Below W5.heap.size W5 u → (∀ o, u.cell? ⟨Z, o, none⟩ = (#[.slice (some ⟨rb2, 0, none⟩) d.rl d.rc, .slice d.ea d.el d.ec, .slice (some ⟨tb2, 0, none⟩) d.tl d.tc, .int .i64 now] : Array Value)[o]?) ∧ (∀ o, u.cell? ⟨X, o, none⟩ = (#[.int .i64 t.p, .int .i64 t.e, .int .i64 t.s, .int .i64 t.u, .slice t.ra t.rl t.rc, .slice (some ⟨lb, loff, none⟩) t.ll t.lc] : Array Value)[o]?)) := fun u hu => ⟨fun o => (hu.cell (p := ⟨Z, o, none⟩) (fb_lt K5.out.z)).trans (HZ5.out o), fun o => HSX.out u ((hu.block _ (fb_lt HX5.out)).trans HX5.out) o⟩
      have HXT : Hid (tb2 ≠ X) := fun e => by have h1 := HXlt.out; have h2 := HLW.out tb2 (.inr (by have h := HTA.out; show blk? d.ta = _; rw [show d.ta = some ⟨tb2, 0, none⟩ from h]; rfl)); omega
      go_cut [] (fun wd => ∃ a4 c4, Hid (OB w wd (fabO (some ⟨rb, roff, none⟩) rl rc ea 4 ec (some ⟨tb, toff, none⟩) tl tc now) Z now ((d.setR g (⟨r.cap, r.first, a, r.rl + 1, q, b, r.cl, p, (r.recs ++ [recText t.s ((j : Int) + 1) ⟨#[]⟩]), r.curs⟩ : RD)).setT j ⟨t0.p, t0.e, t0.s, t0.u, t0.ra, t0.rl, t0.rc, a4, t.ll - 1, c4, t0.rs, ls⟩)))
      case first =>
        by_cases hlc1 : t.lc = 1
        case neg =>
          refine wp_region_held_drew (S := (fun x => (∀ o, x.cell? ⟨Z, o, none⟩ = (#[.slice (some ⟨rb2, 0, none⟩) d.rl d.rc, .slice d.ea d.el d.ec, .slice (some ⟨tb2, 0, none⟩) d.tl d.tc, .int .i64 now] : Array Value)[o]?) ∧ (∀ o, x.cell? ⟨X, o, none⟩ = (#[.int .i64 t.p, .int .i64 t.e, .int .i64 t.s, .int .i64 t.u, .slice t.ra t.rl t.rc, .slice (some ⟨lb, loff, none⟩) t.ll t.lc] : Array Value)[o]?))) (by kernel_rfl) (HS5.out _ ((Below.refl _ _).drew)) (fun hHeld => ?_)
          refine tk (i := 0) (v := ?_) rfl hHeld (.inl ⟨by rfl, ?_⟩) ?_
          rotate_left
          · intro wy hSw; (try dsimp only at hSw); go_simp; (try with_reducible rfl)
          try simp only [Act.put, n1, n2, n3, n4, n5, n6]
          refine tk (i := 1) (v := ?_) rfl hHeld (.inl ⟨by rfl, ?_⟩) ?_
          rotate_left
          · intro wy hSw; (try dsimp only at hSw); go_simp; (try with_reducible rfl)
          try simp only [Act.put, n1, n2, n3, n4, n5, n6]
          refine tk (i := 2) (v := ?_) rfl hHeld (.inl ⟨by rfl, ?_⟩) ?_
          rotate_left
          · intro wy hSw; (try dsimp only at hSw); go_simp; (try with_reducible rfl)
          try simp only [Act.put, n1, n2, n3, n4, n5, n6]
          refine tk (i := 4) (v := ?_) rfl hHeld (.inl ⟨by rfl, ?_⟩) ?_
          rotate_left
          · intro wy hSw; (try dsimp only at hSw); go_simp; (try with_reducible rfl)
          try simp only [Act.put, n1, n2, n3, n4, n5, n6]
          refine tk (i := 5) (v := ?_) rfl hHeld (.inl ⟨by rfl, ?_⟩) ?_
          rotate_left
          · intro wy hSw; (try dsimp only at hSw); go_simp; (try with_reducible rfl)
          try simp only [Act.put, n1, n2, n3, n4, n5, n6]
          refine tk (i := 6) (v := ?_) rfl hHeld (.inl ⟨by rfl, ?_⟩) ?_
          rotate_left
          · intro wy hSw; (try dsimp only at hSw); go_simp; (try with_reducible rfl)
          try simp only [Act.put, n1, n2, n3, n4, n5, n6]
          refine wpAnyH_ready (rs := [3]) (by kernel_rfl) (by simp) ?_
          refine AllReadyH.cons rfl (fun K hK => ?_) AllReadyH.nil
          go_simp
          refine hK.out _ _ ?_ (fun hHeld => ?_)
          · exact HS5.out _ HBA.out
          clear hK K
          try simp only [Act.put, n1, n2, n3, n4, n5, n6]
          refine wpAnyH_ready (rs := [7]) (by kernel_rfl) (by simp) ?_
          refine AllReadyH.cons rfl (fun K hK => ?_) AllReadyH.nil
          refine step_append_own_any (by rfl) _ _ 23 (by rfl) W5.heap.size 2 j0 _ 1 8 Tryz.underlying23 hj0 hy0 hy1 hy2 (by rfl) (by omega) _ 0 [] (by rfl) HROW.out (some ⟨lb, loff + 1, none⟩) (t.ll - 1) (t.lc - 1) (numCells ls) (by rfl) (by rw [List.length_map, HLE.out]; omega) (fun e => by cases e) (nums_news (n := t.ll - 1) (nums_below (HNU.out (loff + 1) (.inl rfl)) HBA.out)) (numCells_one _) (by unfold maxLen; omega) (by omega) HBA.out.size ?_
          intro v2 w3 ho3 hg3
          simp only [Nat.zero_add, List.nil_append] at ho3
          obtain ⟨a4, c4, rfl⟩ := own_numV ho3
          have HB6 : Hid (Below W5.heap.size W5 w3) := HBA.out.grown hg3 HBA.out.size (fun k e => (HROW.out.lt k e).1)
          have HO6 : Hid (w3.ownsRow W5.heap.size 2 1 (.slice a4 (t.ll - 1) c4) (t.ll - 1) (numCells ls)) := ho3
          have K6 : Hid (OB w w3 (fabO (some ⟨rb, roff, none⟩) rl rc ea 4 ec (some ⟨tb, toff, none⟩) tl tc now) Z now (d.setR g (⟨r.cap, r.first, a, r.rl + 1, q, b, r.cl, p, (r.recs ++ [recText t.s ((j : Int) + 1) ⟨#[]⟩]), r.curs⟩ : RD))) := K5.out.under HB6.out
          have HTC : Hid _ := K6.out.tcell HTA.out HT0.out.1
          have hk5 := HTC.out.2.2.2.2.2.2
          have hfz6 := fun j => (show World.ownsRow _ _ _ _ (.slice (some ⟨tb2, 0, none⟩) d.tl d.tc) _ _ from (by have h := K6.out.own.t; rw [HTA.out] at h; exact h)).frozenAt j
          have K7 : Hid (OB w (w3.setCell ⟨tb2, j * 6 + 5, none⟩ (.slice a4 (t.ll - 1) c4)) (fabO (some ⟨rb, roff, none⟩) rl rc ea 4 ec (some ⟨tb, toff, none⟩) tl tc now) Z now ((d.setR g (⟨r.cap, r.first, a, r.rl + 1, q, b, r.cl, p, (r.recs ++ [recText t.s ((j : Int) + 1) ⟨#[]⟩]), r.curs⟩ : RD)).setT j ⟨t0.p, t0.e, t0.s, t0.u, t0.ra, t0.rl, t0.rc, a4, (t.ll - 1), c4, t0.rs, ls⟩)) := K5.out.putL HB6.out HTA.out HT0.out.1 HO6.out
          have HX7 : Hid ((w3.setCell ⟨tb2, j * 6 + 5, none⟩ (.slice a4 (t.ll - 1) c4)).heap[X]? = some t.obj) := ((grown_setc w3 tb2 (j * 6 + 5) _).block _ (fb_lt ((HB6.out.block _ (fb_lt HX5.out)).trans HX5.out)) (by have := HXT.out; simp; omega)).trans ((HB6.out.block _ (fb_lt HX5.out)).trans HX5.out)
          clear ho3 hg3
          refine hK.out _ _ ?_ (fun hHeld => ?_)
          · exact HS5.out _ HB6.out
          clear hK K
          try simp only [Act.put, n1, n2, n3, n4, n5, n6]
          refine tk (i := 8) (v := ?_) rfl hHeld (.inl ⟨by rfl, ?_⟩) ?_
          rotate_left
          · intro wy hSw; (try dsimp only at hSw); go_simp; (try with_reducible rfl)
          try simp only [Act.put, n1, n2, n3, n4, n5, n6]
          refine tk (i := 9) (v := ?_) rfl hHeld (.inl ⟨by rfl, ?_⟩) ?_
          rotate_left
          · intro wy hSw; (try dsimp only at hSw); go_simp; (try with_reducible rfl)
          try simp only [Act.put, n1, n2, n3, n4, n5, n6]
          refine wpAnyH_ready (rs := [10]) (by kernel_rfl) (by simp) ?_
          refine AllReadyH.cons rfl (fun K hK => ?_) AllReadyH.nil
          go_simp
          refine hK.out _ _ ?_ (fun hHeld => ?_)
          · exact ⟨fun o => (fb_cell K7.out.z o).trans (by show (#[.slice d.ra d.rl d.rc, .slice d.ea d.el d.ec, .slice d.ta d.tl d.tc, .int .i64 now] : Array Value)[o]? = _; rw [HRA.out, show d.ta = some ⟨tb2, 0, none⟩ from HTA.out]), HSX.out _ HX7.out⟩
          clear hK K
          try simp only [Act.put, n1, n2, n3, n4, n5, n6]
          refine wpAnyH_done (by kernel_rfl) ?_ _
          go_wp2_with fail
          go_meet
          exact ⟨a4, c4, K7⟩
        case pos =>
          have hll2 : t.ll = 1 := by omega
          refine wp_region_held_drew (S := (fun x => (∀ o, x.cell? ⟨Z, o, none⟩ = (#[.slice (some ⟨rb2, 0, none⟩) d.rl d.rc, .slice d.ea d.el d.ec, .slice (some ⟨tb2, 0, none⟩) d.tl d.tc, .int .i64 now] : Array Value)[o]?) ∧ (∀ o, x.cell? ⟨X, o, none⟩ = (#[.int .i64 t.p, .int .i64 t.e, .int .i64 t.s, .int .i64 t.u, .slice t.ra t.rl t.rc, .slice (some ⟨lb, loff, none⟩) t.ll t.lc] : Array Value)[o]?))) (by kernel_rfl) (HS5.out _ ((Below.refl _ _).drew)) (fun hHeld => ?_)
          refine tk (i := 0) (v := ?_) rfl hHeld (.inl ⟨by rfl, ?_⟩) ?_
          rotate_left
          · intro wy hSw; (try dsimp only at hSw); go_simp; (try with_reducible rfl)
          try simp only [Act.put, n1, n2, n3, n4, n5, n6]
          refine tk (i := 1) (v := ?_) rfl hHeld (.inl ⟨by rfl, ?_⟩) ?_
          rotate_left
          · intro wy hSw; (try dsimp only at hSw); go_simp; (try with_reducible rfl)
          try simp only [Act.put, n1, n2, n3, n4, n5, n6]
          refine tk (i := 2) (v := ?_) rfl hHeld (.inl ⟨by rfl, ?_⟩) ?_
          rotate_left
          · intro wy hSw; (try dsimp only at hSw); go_simp; (try with_reducible rfl)
          try simp only [Act.put, n1, n2, n3, n4, n5, n6]
          refine tk (i := 4) (v := ?_) rfl hHeld (.inl ⟨by rfl, ?_⟩) ?_
          rotate_left
          · intro wy hSw; (try dsimp only at hSw); go_simp; (try with_reducible rfl)
          try simp only [Act.put, n1, n2, n3, n4, n5, n6]
          refine tk (i := 5) (v := ?_) rfl hHeld (.inl ⟨by rfl, ?_⟩) ?_
          rotate_left
          · intro wy hSw; (try dsimp only at hSw); go_simp; (try with_reducible rfl)
          try simp only [Act.put, n1, n2, n3, n4, n5, n6]
          refine tk (i := 6) (v := ?_) rfl hHeld (.inl ⟨by rfl, ?_⟩) ?_
          rotate_left
          · intro wy hSw; (try dsimp only at hSw); go_simp; (try with_reducible rfl)
          try simp only [Act.put, n1, n2, n3, n4, n5, n6]
          refine wpAnyH_ready (rs := [3]) (by kernel_rfl) (by simp) ?_
          refine AllReadyH.cons rfl (fun K hK => ?_) AllReadyH.nil
          go_simp
          refine hK.out _ _ ?_ (fun hHeld => ?_)
          · exact HS5.out _ HBA.out
          clear hK K
          try simp only [Act.put, n1, n2, n3, n4, n5, n6]
          refine wpAnyH_ready (rs := [7]) (by kernel_rfl) (by simp) ?_
          refine AllReadyH.cons rfl (fun K hK => ?_) AllReadyH.nil
          refine step_append_own_any (by rfl) _ _ 23 (by rfl) W5.heap.size 2 j0 _ 1 8 Tryz.underlying23 hj0 hy0 hy1 hy2 (by rfl) (by omega) _ 0 [] (by rfl) HROW.out (some ⟨lb, loff, none⟩) 0 0 (numCells ls) (by rfl) (by rw [List.length_map, HLE.out]; omega) (fun e => by cases e) (nums_news (n := t.ll - 1) (nums_below (HNU.out (loff) (.inr hll2)) HBA.out)) (numCells_one _) (by unfold maxLen; omega) (by omega) HBA.out.size ?_
          intro v2 w3 ho3 hg3
          simp only [Nat.zero_add, List.nil_append] at ho3
          obtain ⟨a4, c4, rfl⟩ := own_numV ho3
          have HB6 : Hid (Below W5.heap.size W5 w3) := HBA.out.grown hg3 HBA.out.size (fun k e => (HROW.out.lt k e).1)
          have HO6 : Hid (w3.ownsRow W5.heap.size 2 1 (.slice a4 0 c4) 0 (numCells ls)) := ho3
          have K6 : Hid (OB w w3 (fabO (some ⟨rb, roff, none⟩) rl rc ea 4 ec (some ⟨tb, toff, none⟩) tl tc now) Z now (d.setR g (⟨r.cap, r.first, a, r.rl + 1, q, b, r.cl, p, (r.recs ++ [recText t.s ((j : Int) + 1) ⟨#[]⟩]), r.curs⟩ : RD))) := K5.out.under HB6.out
          have HTC : Hid _ := K6.out.tcell HTA.out HT0.out.1
          have hk5 := HTC.out.2.2.2.2.2.2
          have hfz6 := fun j => (show World.ownsRow _ _ _ _ (.slice (some ⟨tb2, 0, none⟩) d.tl d.tc) _ _ from (by have h := K6.out.own.t; rw [HTA.out] at h; exact h)).frozenAt j
          have K7 : Hid (OB w (w3.setCell ⟨tb2, j * 6 + 5, none⟩ (.slice a4 0 c4)) (fabO (some ⟨rb, roff, none⟩) rl rc ea 4 ec (some ⟨tb, toff, none⟩) tl tc now) Z now ((d.setR g (⟨r.cap, r.first, a, r.rl + 1, q, b, r.cl, p, (r.recs ++ [recText t.s ((j : Int) + 1) ⟨#[]⟩]), r.curs⟩ : RD)).setT j ⟨t0.p, t0.e, t0.s, t0.u, t0.ra, t0.rl, t0.rc, a4, 0, c4, t0.rs, ls⟩)) := K5.out.putL HB6.out HTA.out HT0.out.1 HO6.out
          have HX7 : Hid ((w3.setCell ⟨tb2, j * 6 + 5, none⟩ (.slice a4 0 c4)).heap[X]? = some t.obj) := ((grown_setc w3 tb2 (j * 6 + 5) _).block _ (fb_lt ((HB6.out.block _ (fb_lt HX5.out)).trans HX5.out)) (by have := HXT.out; simp; omega)).trans ((HB6.out.block _ (fb_lt HX5.out)).trans HX5.out)
          clear ho3 hg3
          refine hK.out _ _ ?_ (fun hHeld => ?_)
          · exact HS5.out _ HB6.out
          clear hK K
          try simp only [Act.put, n1, n2, n3, n4, n5, n6]
          refine tk (i := 8) (v := ?_) rfl hHeld (.inl ⟨by rfl, ?_⟩) ?_
          rotate_left
          · intro wy hSw; (try dsimp only at hSw); go_simp; (try with_reducible rfl)
          try simp only [Act.put, n1, n2, n3, n4, n5, n6]
          refine tk (i := 9) (v := ?_) rfl hHeld (.inl ⟨by rfl, ?_⟩) ?_
          rotate_left
          · intro wy hSw; (try dsimp only at hSw); go_simp; (try with_reducible rfl)
          try simp only [Act.put, n1, n2, n3, n4, n5, n6]
          refine wpAnyH_ready (rs := [10]) (by kernel_rfl) (by simp) ?_
          refine AllReadyH.cons rfl (fun K hK => ?_) AllReadyH.nil
          go_simp
          refine hK.out _ _ ?_ (fun hHeld => ?_)
          · exact ⟨fun o => (fb_cell K7.out.z o).trans (by show (#[.slice d.ra d.rl d.rc, .slice d.ea d.el d.ec, .slice d.ta d.tl d.tc, .int .i64 now] : Array Value)[o]? = _; rw [HRA.out, show d.ta = some ⟨tb2, 0, none⟩ from HTA.out]), HSX.out _ HX7.out⟩
          clear hK K
          try simp only [Act.put, n1, n2, n3, n4, n5, n6]
          refine wpAnyH_done (by kernel_rfl) ?_ _
          go_wp2_with fail
          go_meet
          exact ⟨a4, c4, (by rw [hll2]; exact K7)⟩
      case rest =>
      obtain ⟨a4, c4, K8⟩ := hcut
      have cz := fun o => fb_cell K8.out.z o
      have cy := fun o => fb_cell K8.out.y o
      have fy := fun o => unfrozen_of_block0 K8.out.y o
      have hts := HT0.out.2
      simp only [TD.strip, TD.mk.injEq] at hts
      obtain ⟨e0, e1, e2, e3, _, _, _, _, _, _, e4, _⟩ := hts
      have HFIN : Hid _ := K8.out.fin (n := (j : Int) + 1) (c := 0) (T := T) ⟨by rw [HTE.out]; show (d.rs.set g _).map RD.strip = (rs.set g _).map RD.strip; rw [List.map_set, List.map_set, HDS.out.1]; rfl, by rw [HTE.out]; exact HDS.out.2.1, by rw [HTE.out]; show (d.ts.set j _).map TD.strip = (ts.set j _).map TD.strip; rw [List.map_set, List.map_set, HDS.out.2.2, e0, e1, e2, e3, e4]; rfl⟩ ⟨by rw [HTE.out], by rw [HTE.out], by rw [HTE.out]⟩
      clear e0 e1 e2 e3 e4
      go_wp2
      exact bodyPost_ret (v := outV d.ra d.rl d.rc d.ea d.el d.ec d.ta d.tl d.tc now ((j : Int) + 1) 0) (by simp [results, Tryz.results27, go_sem, cy, FD.setR, FD.setT]) rfl HFIN.out
end Go.Proofs.YtneiihikcnjglaaGreatDoor
/- The program's Help: how the first that is left ended is said. -/
namespace Go.Proofs.YtneiihikcnjglaaGreatDoor
open Go.RowKit Go.Maps
attribute [local go_sem ↓] Go.wp_at_zero Go.wp_at_succ
set_option linter.unusedSimpArgs false
set_option linter.unusedVariables false
variable {aN aF aR aS aM aL : Addr}
set_option maxRecDepth 100000 in
set_option maxHeartbeats 2000000 in
theorem impl_leftNoMore {lo B M : Nat} {ta : Option Addr} {tl tc : Nat} {ra : Option Addr} {rl rc : Nat} {ea : Option Addr} {el ec : Nat} {now began puts : Int} {ts : List TD} {rs : List RD} {es : List Int} {m : Nat} {D : DataW Unit} (k : Nat) (g : Int) (t : TD) (ls : List Int) (w : World)
    (h : WK lo w B M ta tl tc ra rl rc ea el ec now began puts ts rs es m D) (hk : ts[k]? = some t) (hl : t.ls = g :: ls) (htl : tl ≤ 1048576) :
    Calls Tryz.prog 140 #[.pointer (some ⟨B, 0, none⟩), .int .i64 (k : Int), .int .i64 g] w fun x w' => x = .returned (.tuple #[]) ∧ Below lo w w' ∧
      ∃ t' : TD, t'.strip = saidT t ls ∧ WK lo w' B M ta tl tc ra rl rc ea el ec now began puts (ts.set k t') rs es m D := by
  have hkl : k < tl := by rw [← h.txs.1]; exact (List.getElem?_eq_some_iff.1 hk).1
  obtain ⟨tb, rfl⟩ := own_nform h.t (by omega)
  have HK : Hid (WK lo w B M (some ⟨tb, 0, none⟩) tl tc ra rl rc ea el ec now began puts ts rs es m D) := h
  have HT : Hid (ts[k]? = some t) := hk
  have HLS : Hid (t.ls = g :: ls) := hl
  have HF : Hid (TFit w t) := h.ft t (List.mem_of_getElem? hk)
  have HLO : Hid (lo ≤ w.heap.size) := Nat.le_of_lt (Nat.lt_of_le_of_lt h.lb (fb_lt h.b))
  have hki : (k : Int) < (tl : Int) := by omega
  have hll : 0 < t.ll := by have := HF.out.l.nums.1; rw [hl] at this; simp at this; omega
  have HWO : Hid (∀ u : World, NumIn u t.la t.ll t.lc t.ls → Calls Tryz.prog 192 #[.slice t.la t.ll t.lc, .int .i64 0] u fun e w' => ∃ a' c', e = .returned (.slice a' (t.ll - 1) c') ∧ NumIn w' a' (t.ll - 1) c' ls ∧ Below u.heap.size u w' ∧ c' ≤ maxLen ∧ (a' = t.la ∨ ∀ x, a' = some x → u.heap.size ≤ x.block)) := fun u hu => (impl_withoutN t.la t.ll t.lc 0 t.ls u hu hll HF.out.lcm HF.out.lle).mono fun x v h => by
    obtain ⟨a', c', h1, h2, h3, h4, h5⟩ := h
    rw [HLS.out] at h2
    exact ⟨a', c', h1, h2, h3, h4, h5⟩
  clear h hk hl
  obtain ⟨b, off, t1, e0, e1, g0, g1, g2, g3, g4, g5, _⟩ := txsG_at keeps_tfit HK.out.txs (Below.refl _ _) hkl
  cases e0
  obtain rfl := Option.some.inj (HT.out.symm.trans e1)
  simp only [Nat.zero_add] at g0 g1 g2 g3 g4 g5
  clear e1
  have cb := fun o => fb_cell HK.out.b o
  go_enter Tryz.func140, Tryz.ntmps140
  go_wp2_with fail
  refine (impl_findN t.la t.ll t.lc g t.ls _ HF.out.l.nums HF.out.lle).mono ?_
  rintro x v ⟨rfl, hv⟩
  rw [hv, HLS.out, find_head.1]
  clear hv v
  have HKd : Hid (WK lo w.drew B M (some ⟨tb, 0, none⟩) tl tc ra rl rc ea el ec now began puts ts rs es m D) := HK.out.under ((Below.refl _ _).drew)
  have cbd : ∀ o, w.drew.cell? ⟨B, o, none⟩ = _ := cb
  have g5d : w.drew.cell? ⟨tb, k * 6 + 5, none⟩ = _ := g5
  go_upto_region 1 with fail
  go_region_with (first | (go_at_call 192; refine (HWO.out _ (HF.out.l.below ((Below.refl _ _).drew))).mono ?_; rintro x v ⟨a', c', rfl, hn, hb, hcm, hor⟩; have HBv : Hid (Below w.heap.size w v) := below_tr ((Below.refl _ _).drew) hb; have HKv : Hid (WK lo v B M (some ⟨tb, 0, none⟩) tl tc ra rl rc ea el ec now began puts ts rs es m D) := HK.out.under HBv.out; have HFv : Hid (TFit v ⟨t.p, t.e, t.s, t.u, t.ra, t.rl, t.rc, a', t.ll - 1, c', t.rs, ls⟩) := ⟨HF.out.r.below HBv.out, hn, HF.out.rle, Nat.le_trans (Nat.sub_le _ _) HF.out.lle, HF.out.pw, HF.out.rcm, hcm⟩; have HOv : Hid (∀ X, Mine B M (some ⟨tb, 0, none⟩) ra ea X → Off X a') := (fun X hX => hor.elim (fun e => e ▸ (HK.out.ot t (List.mem_of_getElem? HT.out) X hX).2) (fun h x e he => by have h1 := h x e; have h2 := (HKd.out.mine_lt hX).2; omega)); have cbv := fun o => fb_cell HKv.out.b o; have fzv := fun j => (HKv.out.t).frozenAt j; obtain ⟨_, _, t9, e9, e8, _, _, _, _, _, k5, _⟩ := txsG_at keeps_tfit HKv.out.txs (Below.refl _ _) hkl; cases e9; obtain rfl := Option.some.inj (HT.out.symm.trans e8); simp only [Nat.zero_add] at k5; clear e8 hn hb hcm hor))
  all_goals
    go_wp2
    go_end0
    exact ⟨rfl, (HBv.out.mono HLO.out).setCell (p := ⟨tb, k * 6 + 5, none⟩) (HK.out.mine_lt (X := tb) (.inr (.inr (.inl rfl)))).1 _, _, rfl, HKv.out.setL k HT.out HFv.out HOv.out⟩
end Go.Proofs.YtneiihikcnjglaaGreatDoor
/- The program's Help: what is left to be said is put. -/
namespace Go.Proofs.YtneiihikcnjglaaGreatDoor
open Go.RowKit Go.Maps
attribute [local go_sem ↓] Go.wp_at_zero Go.wp_at_succ
set_option linter.unusedSimpArgs false
set_option linter.unusedVariables false
variable {aN aF aR aS aM aL : Addr}
theorem leftAt_is {ts : List TD} {k : Nat} (h : leftAt ts = some k) : ∃ t g ls, ts[k]? = some t ∧ t.ls = g :: ls ∧ ∀ (j : Nat) (u : TD), j < k → ts[j]? = some u → u.ls = [] := by
  unfold leftAt at h
  obtain ⟨hl, hp, hb⟩ := List.findIdx?_eq_some_iff_getElem.1 h
  cases hls : ts[k].ls with
  | nil => rw [hls] at hp; simp at hp
  | cons g ls =>
    refine ⟨ts[k], g, ls, List.getElem?_eq_getElem hl, hls, fun j u hj hu => ?_⟩
    have := hb j hj
    obtain ⟨h1, e⟩ := List.getElem?_eq_some_iff.1 hu
    rw [e] at this
    simpa using this
theorem endSum_set {rs : List RD} {g : Nat} {r r' : RD} (hg : rs[g]? = some r) (hf : r'.first = r.first) (hr : r'.rl = r.rl + 1) : endSum (rs.set g r') = endSum rs + 1 := by
  unfold endSum
  induction rs generalizing g with
  | nil => simp at hg
  | cons z l ih =>
    cases g with
    | zero =>
      simp only [List.getElem?_cons_zero, Option.some.injEq] at hg
      subst hg
      simp [hf, hr]
      omega
    | succ g =>
      rw [List.getElem?_cons_succ] at hg
      have := ih hg
      simp only [List.set_cons_succ, List.map_cons, List.sum_cons] at this ⊢
      omega
set_option maxRecDepth 100000 in
set_option maxHeartbeats 2000000 in
theorem impl_help {lo B M : Nat} {ta : Option Addr} {tl tc : Nat} {ra : Option Addr} {rl rc : Nat} {ea : Option Addr} {ec : Nat} {now : Int} {ts : List TD} {rs : List RD} {es : List Int} (w : World)
    (h : WK lo w B M ta tl tc ra rl rc ea 4 ec now (endSum rs) 0 ts rs es tl (openD ts tl)) (hU : utabs w) (hE : Errs aN aF aR aS aM aL w) (hR : fabRightB rs es ts now = true) :
    Calls Tryz.prog 80 #[.pointer (some ⟨B, 0, none⟩)] w fun x w' => Below lo w w' ∧ WorkAns aN aF aR aS aM aL lo B (endSum rs) (helpR rs es ts now) x w' := by
  have HK : Hid (WK lo w B M ta tl tc ra rl rc ea 4 ec now (endSum rs) 0 ts rs es tl (openD ts tl)) := h
  have HE : Hid (Errs aN aF aR aS aM aL w) := hE
  have HU : Hid (utabs w) := hU
  have HR : Hid (fabRightB rs es ts now = true) := hR
  have htl : tl ≤ 12 := by have := (right_sizes hR).2.2.2; have := h.txs.1; omega
  have hrl : rl ≤ 4 := by have := (right_sizes hR).2.1; have := h.rngs.1; omega
  have HLO : Hid (lo ≤ w.heap.size) := Nat.le_of_lt (Nat.lt_of_le_of_lt h.lb (fb_lt h.b))
  have HG : Hid (∀ t ∈ ts, ∀ y ∈ t.ls, 0 ≤ y ∧ y ≤ 3) := fun t ht y hy => by
    obtain ⟨i, hi, e⟩ := List.getElem_of_mem ht
    cases hls : t.ls with
    | nil => rw [hls] at hy; cases hy
    | cons x ls =>
      obtain ⟨_, _, _, _, _, _, _, _, hall⟩ := right_left hR (k := i) (t := t) (by rw [List.getElem?_eq_getElem hi, e]) hls
      exact hall y hy
  clear h hE hU hR
  go_enter Tryz.func80, Tryz.ntmps80
  go_wp2_with fail
  refine (impl_firstLeft _ HK.out HE.out (by omega) HG.out).mono ?_
  rintro x v ⟨⟨hx1, hx2⟩, hb⟩
  have HKv : Hid (WK lo v B M ta tl tc ra rl rc ea 4 ec now (endSum rs) 0 ts rs es tl (openD ts tl)) := HK.out.under hb
  have HBv : Hid (Below lo w v) := hb.mono HLO.out
  have HUv : Hid (utabs v) := utabs_below HU.out hb
  clear hb HK
  cases hL : leftAt ts with
  | none =>
    obtain rfl := hx1 hL
    have HRI : Hid (helpR rs es ts now = .error 6) := show _ = _ by unfold helpR; rw [hL]
    clear hx1 hx2 hL
    go_wp2
    refine bodyPost_ret (v := .tuple #[.int .i64 0, errV aL]) (by simp [results, Tryz.results80, go_sem]) rfl ⟨HBv.out, ?_⟩
    rw [HRI.out]
    exact ⟨0, _, _, rfl, fun u hu => why_L u hu⟩
  | some k =>
    obtain ⟨t, x0, ls, htk, hls, hbf⟩ := leftAt_is hL
    obtain ⟨g, r, rfl, hg4, hrg, hput, hst, hup, hall⟩ := right_left HR.out htk hls
    obtain rfl := hx2 k t _ ls hL htk hls
    have HRO : Hid (helpR rs es ts now = .ok ⟨rs.set g (endRec r t.s k), es, ts.set k (saidT t ls), now, (k : Int) + 1⟩) := help_some htk hls hbf hrg
    have HT : Hid (ts[k]? = some t ∧ t.ls = (g : Int) :: ls) := ⟨htk, hls⟩
    have HRG : Hid (rs[g]? = some r) := hrg
    have HPUT : Hid _ := hput
    have hrf := right_first (fit_right (right_ring HR.out hrg))
    have hrfit := HKv.out.fr r (List.mem_of_getElem? hrg)
    have HRF : Hid ((0 ≤ r.first ∧ r.first ≤ 1000000) ∧ r.rl ≤ 1000 ∧ r.cl ≤ 1000 ∧ ∀ s ∈ r.recs, s.size ≤ 1048576) := ⟨hrf.1, by have h1 := hrf.2.2.1; have h2 := hrf.2.1.2; have h3 := hrfit.str.strs.1; omega, by have h1 := hrf.2.2.2.2; have h3 := hrfit.cur.curs.1; omega, hrfit.sz⟩
    clear hrf hrfit
    have hst' : t.s = 2 ∨ t.s = 3 := hst
    have HST : Hid (t.s = 2 ∨ t.s = 3) := hst
    have hkl : k < tl := by rw [← HKv.out.txs.1]; exact (List.getElem?_eq_some_iff.1 htk).1
    have hki : (k : Int) < (tl : Int) := by omega
    have hgi : (g : Int) ≤ 3 := by omega
    obtain ⟨b, off, t1, e0, e1, g0, g1, g2, g3, g4, g5, _⟩ := txsG_at keeps_tfit HKv.out.txs (Below.refl _ _) hkl
    obtain rfl := Option.some.inj (htk.symm.trans e1)
    subst e0
    clear hx1 hx2 hL htk hls hbf hrg hput hst hst' hup hall e1
    have cb := fun o => fb_cell HKv.out.b o
    go_wp2_with fail
    refine (impl_kindOfEnd t.s _ HST.out).mono ?_
    rintro x u ⟨rfl, hu⟩
    rw [hu]
    clear hu u
    go_wp2_with fail
    refine (impl_numberAt (k : Int) _ ⟨by omega, by omega⟩).mono ?_
    rintro x u ⟨rfl, hu⟩
    rw [hu]
    clear hu u
    go_wp2_with fail
    refine (impl_put g r t.s ((k : Int) + 1) ⟨#[]⟩ (r.recs ++ [recText t.s ((k : Int) + 1) ⟨#[]⟩]) _ HKv.out HRG.out (by omega) HUv.out (Nat.zero_le _) HPUT.out HRF.out.1 (by rw [List.length_append, List.length_singleton]) HRF.out.2.1 HRF.out.2.2.1 (fun s hs => ?_) (by omega)).mono ?_
    · rcases List.mem_append.1 hs with hs | hs
      · exact HRF.out.2.2.2 s hs
      · rw [List.mem_singleton.1 hs]; have := recText_size t.s ((k : Int) + 1) ⟨#[]⟩; omega
    rintro x v3 ⟨rfl, hb3, r', hr1, hr2, hk3⟩
    have HK3 : Hid (WK lo v3 B M (some ⟨b, off, none⟩) tl tc ra rl rc ea 4 ec now (endSum rs) (0 + 1) ts (rs.set g r') es tl (openD ts tl)) := hk3
    have HB3 : Hid (Below lo w v3) := HBv.out.trans hb3
    have HR1 : Hid (r'.strip = ⟨r.cap, r.first, none, 0, 0, none, 0, 0, r.recs ++ [recText t.s ((k : Int) + 1) ⟨#[]⟩], r.curs⟩ ∧ r'.rl = r.rl + 1) := ⟨hr1, hr2⟩
    clear hb3 hr1 hr2 hk3 g0 g1 g2 g3 g4 g5 cb
    go_wp2_with fail
    refine (impl_leftNoMore k (g : Int) t ls _ HK3.out HT.out.1 HT.out.2 (by omega)).mono ?_
    rintro x v4 ⟨rfl, hb4, t', ht1, hk4⟩
    have HK4 : Hid (WK lo v4 B M (some ⟨b, off, none⟩) tl tc ra rl rc ea 4 ec now (endSum rs) (0 + 1) (ts.set k t') (rs.set g r') es tl (openD ts tl)) := hk4
    have HB4 : Hid (Below lo w v4) := HB3.out.trans hb4
    have HT1 : Hid (t'.strip = saidT t ls) := ht1
    clear hb4 ht1 hk4
    go_wp2_with fail
    refine (impl_numberAt (k : Int) _ ⟨by omega, by omega⟩).mono ?_
    rintro x u ⟨rfl, hu⟩
    rw [hu]
    clear hu u
    go_wp2
    refine bodyPost_ret (v := .tuple #[.int .i64 ((k : Int) + 1), .nilIface]) (by simp [results, Tryz.results80, go_sem]) rfl ⟨HB4.out, ?_⟩
    rw [HRO.out]
    have hf : r'.first = r.first := by have h := congrArg RD.first HR1.out.1; exact h
    refine ⟨M, _, tl, tc, ra, rl, rc, ea, ec, 0 + 1, ts.set k t', rs.set g r', tl, openD ts tl, rfl, HK4.out, by rw [endSum_set HRG.out hf HR1.out.2]; omega, by omega, hrl, htl, fun q hq => ?_, ?_, ?_⟩
    · rcases List.mem_or_eq_of_mem_set hq with hq | rfl
      · exact right_fin HR.out q hq
      · rw [hf]; exact HRF.out.1
    · show (rs.set g r').map RD.strip = (rs.set g (endRec r t.s k)).map RD.strip
      rw [List.map_set, List.map_set, HR1.out.1]
      rfl
    · show (ts.set k t').map TD.strip = (ts.set k (saidT t ls)).map TD.strip
      rw [List.map_set, List.map_set, HT1.out]
      rfl
end Go.Proofs.YtneiihikcnjglaaGreatDoor
/- The program's Help, whole. -/
namespace Go.Proofs.YtneiihikcnjglaaGreatDoor
open Go.RowKit Go.Maps
attribute [local go_sem ↓] Go.wp_at_zero Go.wp_at_succ
set_option linter.unusedSimpArgs false
set_option linter.unusedVariables false
variable {aN aF aR aS aM aL : Addr}
set_option maxHeartbeats 1000000 in
theorem impl_Help1 {lo B M : Nat} {ta : Option Addr} {tl tc : Nat} {ra : Option Addr} {rl rc : Nat} {ea : Option Addr} {ec : Nat} {now : Int} {ts : List TD} {rs : List RD} {es : List Int} (w : World)
    (h : WK lo w B M ta tl tc ra rl rc ea 4 ec now (endSum rs) 0 ts rs es tl (openD ts tl)) (hU : utabs w) (hE : Errs aN aF aR aS aM aL w) (hR : fabRightB rs es ts now = true) :
    Calls Tryz.prog 79 #[.pointer (some ⟨B, 0, none⟩)] w fun x w' => Below lo w w' ∧ WorkAns aN aF aR aS aM aL lo B (endSum rs) (helpR rs es ts now) x w' := by
  have HC : Hid _ := impl_help (lo := lo)  w h hU hE hR
  clear h hU hE hR
  go_enter Tryz.func79, Tryz.ntmps79
  go_wp2_with fail
  refine Calls.mono HC.out ?_
  rintro x v ⟨hb, ha⟩
  have HB : Hid (Below lo w v) := hb
  clear hb HC
  obtain ⟨Q, hQ⟩ : ∃ Q, helpR rs es ts now = Q := ⟨_, rfl⟩
  have HQ : Hid (helpR rs es ts now = Q) := hQ
  rw [hQ] at ha
  clear hQ
  cases Q with
  | error c =>
    obtain ⟨k, t, y, rfl, hcd⟩ := ha
    have HCD : Hid (Coded aN aF aR aS aM aL (.iface t y) c) := hcd
    clear hcd
    go_wp2
    exact bodyPost_ret (v := .tuple #[.int .i64 k, .iface t y]) (by simp [results, Tryz.results79, go_sem]) rfl ⟨HB.out, by rw [HQ.out]; exact ⟨k, t, y, rfl, HCD.out⟩⟩
  | ok F =>
    have HA : Hid (WorkOk lo B (endSum rs) F x v) := ha
    have hx : x = .returned (.tuple #[.int .i64 F.n, .nilIface]) := by
      obtain ⟨_, _, _, _, _, _, _, _, _, _, _, _, _, _, hx, _⟩ := HA.out
      exact hx
    subst hx
    clear ha
    go_wp2
    exact bodyPost_ret (v := .tuple #[.int .i64 F.n, .nilIface]) (by simp [results, Tryz.results79, go_sem]) rfl ⟨HB.out, by rw [HQ.out]; exact HA.out⟩
theorem callHelp1 (args : Array Value) (w : World) : (callFunc 79 args).run Tryz.prog w = .ok (.enter 79 args) w := by
  simp [go_sem, Tryz.func79]
set_option maxRecDepth 100000 in
set_option maxHeartbeats 2000000 in
theorem impl_Help (ra : Option Addr) (rl rc : Nat) (ea : Option Addr) (el ec : Nat) (ta : Option Addr) (tl tc : Nat) (now : Int) (rs : List RD) (es : List Int) (ts : List TD) (w : World)
    (hi : FIn w ra rl ea el ta tl rs es ts) (hU : utabs w) (hE : Errs aN aF aR aS aM aL w) (hn : (ra = none → rl = 0 ∧ rc = 0) ∧ (ea = none → el = 0 ∧ ec = 0) ∧ (ta = none → tl = 0 ∧ tc = 0)) :
    Calls Tryz.prog 28 #[fabVal ra rl rc ea el ec ta tl tc now] w fun x w' => ((fabRightB rs es ts now = false → x = .returned (illV 1)) ∧ (fabRightB rs es ts now = true → FaceAns w w' (helpR rs es ts now) x)) ∧ Below w.heap.size w w' := by
  have hmf : ∀ (fn : Fn) (first cap : Array Value) (w : World), (Instr.makeFunc fn first cap).run Tryz.prog w = .ok (.func fn first cap) w := fun _ _ _ _ => rfl
  obtain ⟨W, hW⟩ : ∃ W, (w.alloc (fabO ra rl rc ea el ec ta tl tc now)).alloc (outO none 0 0 none 0 0 none 0 0 0 0 0) = W := ⟨_, rfl⟩
  have HBW : Hid (Below w.heap.size w W) := by
    subst hW
    exact below_tr (fbelow_new _ _) (fbelow_new _ _)
  have HX0 : Hid (W.heap[w.heap.size]? = some (fabO ra rl rc ea el ec ta tl tc now)) := by
    subst hW
    have h1 := heap_alloc_new w (fabO ra rl rc ea el ec ta tl tc now)
    exact ((fbelow_new _ _).block _ (by simp only [World.size_alloc]; omega)).trans (h1)
  have HX1 : Hid (W.heap[w.heap.size + 1]? = some (outO none 0 0 none 0 0 none 0 0 0 0 0)) := by
    subst hW
    have h1 := heap_alloc_new (w.alloc (fabO ra rl rc ea el ec ta tl tc now)) (outO none 0 0 none 0 0 none 0 0 0 0 0)
    simp only [World.size_alloc] at h1
    exact h1
  have HF : Hid _ := impl_face (aN := aN) (aF := aF) (aR := aR) (aS := aS) (aM := aM) (aL := aL) 79 #[] ra rl rc ea el ec ta tl tc now rs es ts (helpR rs es ts now) W callHelp1 (hi.below HBW.out) (utabs_below hU HBW.out) (hE.below HBW.out) hn
    (fun hR v B M ta' tc' ra' rc' ea' ec' hb hk => impl_Help1   v hk (utabs_below (utabs_below hU HBW.out) hb) ((hE.below HBW.out).below hb) hR  )
  have hle : w.heap.size ≤ w.heap.size + 1 := by omega
  have c0 := fun o => fb_cell HX0.out o
  clear hi hU hE hn
  go_enter Tryz.func28, Tryz.ntmps28
  go_wp2_with fail
  refine Calls.mono HF.out ?_
  rintro x v ⟨⟨hx1, hx2⟩, hb⟩
  have HB : Hid (Below w.heap.size w v) := below_tr HBW.out hb
  have HX1 : Hid (v.heap[w.heap.size + 1]? = some (outO none 0 0 none 0 0 none 0 0 0 0 0)) := (hb.block _ (fb_lt HX1.out)).trans HX1.out
  have HZ : Hid (w.heap.size ≤ W.heap.size) := HBW.out.size
  have cx := fun o => fb_cell HX1.out o
  have fx := fun o => unfrozen_of_block0 HX1.out o
  clear hb HF HX0 HBW c0 hW
  cases hR : fabRightB rs es ts now with
  | false =>
    obtain rfl := hx1 hR
    have HRH : Hid (fabRightB rs es ts now = false) := hR
    clear hx1 hx2 hR
    go_wp2
    exact bodyPost_ret (v := illV 1) (by simp [results, Tryz.results28, go_sem, cx]) rfl ⟨⟨fun _ => rfl, (fun e => by rw [HRH.out] at e; cases e)⟩, below_set6o HB.out hle _ _ _ _ _ _⟩
  | true =>
    have hx := hx2 hR
    have HRH : Hid (fabRightB rs es ts now = true) := hR
    obtain ⟨Q, hQ⟩ : ∃ Q, helpR rs es ts now = Q := ⟨_, rfl⟩
    have HQ : Hid (helpR rs es ts now = Q) := hQ
    rw [hQ] at hx
    clear hx1 hx2 hR hQ
    cases Q with
    | error c =>
      have hx' : x = .returned (illV c) := hx
      subst hx'
      clear hx
      go_wp2
      exact bodyPost_ret (v := illV c) (by simp [results, Tryz.results28, go_sem, cx]) rfl ⟨⟨(fun e => by rw [HRH.out] at e; cases e), fun _ => by rw [HQ.out]; rfl⟩, below_set6o HB.out hle _ _ _ _ _ _⟩
    | ok F =>
      obtain ⟨ra3, rl3, rc3, ea3, ec3, ta3, tl3, tc3, rs3, ts3, rfl, ho3, hs3, h4, h12⟩ := hx
      have HO3 : Hid (OwnFab v w.heap.size ra3 rl3 rc3 ea3 4 ec3 ta3 tl3 tc3 rs3 F.es ts3) := ho3.mono HZ.out
      have HS3 : Hid (FabSame F.rs rs3 F.ts ts3) := hs3
      have H44 : Hid (rl3 ≤ 4 ∧ tl3 ≤ 12) := ⟨h4, h12⟩
      clear ho3 hs3 h4 h12
      go_wp2
      exact bodyPost_ret (v := outV ra3 rl3 rc3 ea3 4 ec3 ta3 tl3 tc3 F.now F.n 0) (by simp [results, Tryz.results28, go_sem, cx]) rfl ⟨⟨(fun e => by rw [HRH.out] at e; cases e), fun _ => by rw [HQ.out]; exact ⟨ra3, rl3, rc3, ea3, ec3, ta3, tl3, tc3, rs3, ts3, rfl, HO3.out.box HX1.out out_ne (grown_set6o v (w.heap.size + 1) _ _ _ _ _ _), HS3.out, H44.out.1, H44.out.2⟩⟩, below_set6o HB.out hle _ _ _ _ _ _⟩
end Go.Proofs.YtneiihikcnjglaaGreatDoor
/- The law FnExactHelp. -/
namespace Go.Proofs.YtneiihikcnjglaaGreatDoor
open Go.RowKit
set_option linter.unusedSimpArgs false
set_option linter.unusedVariables false

theorem leftAt_strip (ts : List TD) : leftAt (ts.map TD.strip) = leftAt ts := by
  unfold leftAt
  rw [List.findIdx?_map]
  rfl
theorem strip_at2 {α : Type} {f : α → α} {l l' : List α} (h : l'.map f = l.map f) (k : Nat) : (l[k]? = none ∧ l'[k]? = none) ∨ ∃ t t', l[k]? = some t ∧ l'[k]? = some t' ∧ f t' = f t := by
  have h1 : (l'.map f)[k]? = (l.map f)[k]? := by rw [h]
  rw [List.getElem?_map, List.getElem?_map] at h1
  cases e : l[k]? with
  | none =>
    rw [e] at h1
    cases e' : l'[k]? with
    | none => exact .inl ⟨rfl, rfl⟩
    | some t' => rw [e'] at h1; cases h1
  | some t =>
    rw [e] at h1
    cases e' : l'[k]? with
    | none => rw [e'] at h1; cases h1
    | some t' => rw [e'] at h1; exact .inr ⟨t, t', rfl, rfl, Option.some.inj h1⟩
theorem help_same {rs rs' : List RD} {ts ts' : List TD} (es : List Int) (now : Int) (hr : rs'.map RD.strip = rs.map RD.strip) (ht : ts'.map TD.strip = ts.map TD.strip) :
    (∃ c, helpR rs es ts now = .error c ∧ helpR rs' es ts' now = .error c) ∨ ∃ F F', helpR rs es ts now = .ok F ∧ helpR rs' es ts' now = .ok F' ∧ F'.rs.map RD.strip = F.rs.map RD.strip ∧ F'.es = F.es ∧ F'.ts.map TD.strip = F.ts.map TD.strip ∧ F'.now = F.now ∧ F'.n = F.n := by
  have hl : leftAt ts' = leftAt ts := by rw [← leftAt_strip ts', ht, leftAt_strip]
  unfold helpR
  rw [hl]
  cases leftAt ts with
  | none => exact .inl ⟨_, rfl, rfl⟩
  | some k =>
    rcases strip_at2 ht k with ⟨e1, e2⟩ | ⟨t, t', e1, e2, hs⟩
    · simp only [e1, e2]; exact .inl ⟨_, rfl, rfl⟩
    · simp only [e1, e2]
      simp only [TD.strip, TD.mk.injEq, true_and] at hs
      obtain ⟨k0, k1, k2, k3, k4, k5⟩ := hs
      rw [k5]
      cases hls : t.ls with
      | nil => exact .inl ⟨_, rfl, rfl⟩
      | cons g ls =>
        simp only
        rcases strip_at2 hr g.toNat with ⟨f1, f2⟩ | ⟨r, r', f1, f2, hq⟩
        · simp only [f1, f2]; exact .inl ⟨_, rfl, rfl⟩
        · simp only [f1, f2]
          simp only [RD.strip, RD.mk.injEq, true_and] at hq
          obtain ⟨q0, q1, q2, q3⟩ := hq
          refine .inr ⟨_, _, rfl, rfl, ?_, rfl, ?_, rfl, rfl⟩
          · show (rs'.set _ _).map _ = (rs.set _ _).map _
            rw [List.map_set, List.map_set, hr, show endRec r' t'.s k = endRec r t.s k by simp only [endRec, q0, q1, q2, q3, k2]]
          · show (ts'.set _ _).map _ = (ts.set _ _).map _
            rw [List.map_set, List.map_set, ht, show saidT t' ls = saidT t ls by simp only [saidT, k0, k1, k2, k3, k4]]
theorem law_Help (ra : Option Addr) (rl rc : Nat) (ea : Option Addr) (el ec : Nat) (ta : Option Addr) (tl tc : Nat) (now : Int) (rs : List RD) (es : List Int) (ts : List TD) (w : World) (hi : LFIn w ra rl ea el ta tl rs es ts) (hp : PreW w) :
    Calls Tryz.prog 7 #[fabVal ra rl rc ea el ec ta tl tc now] w fun x w' => x = .returned (.bool true) ∧ Below w.heap.size w w' := by
  refine law_Help_of PreW preW_below (fun rs es ts => ftOf (fabRightB rs es ts now) (helpR rs es ts now)) now
    (fun d w hf hn hp => spec_Help d.ra d.rl d.rc d.ea d.el d.ec d.ta d.tl d.tc now d.rs d.es d.ts w hf hn.2.1)
    (fun d w hf hn hp => ?_) (fun rs rs' es ts ts' hr ht => ?_) ra rl rc ea el ec ta tl tc rs es ts w hi hp (fun hs => ?_)
  · obtain ⟨hu, aN, aF, aR, aS, aM, aL, hE⟩ := hp
    exact (impl_Help d.ra d.rl d.rc d.ea d.el d.ec d.ta d.tl d.tc now d.rs d.es d.ts w hf hu hE hn).mono fun x w' h => ⟨ans_face h.1.1 h.1.2, h.2⟩
  · rw [fab_same es now hr ht]
    exact ft_same fun hR => help_same es now hr ht
  · obtain ⟨h1, h2⟩ := lfin_sm hi hs
    refine fts_of fun F hR hF => ?_
    have hz := right_sizes hR
    unfold helpR at hF
    cases hk : leftAt ts with
    | none => rw [hk] at hF; cases hF
    | some k =>
      rw [hk] at hF
      simp only at hF
      cases ht : ts[k]? with
      | none => rw [ht] at hF; cases hF
      | some t =>
        rw [ht] at hF
        simp only at hF
        cases hls : t.ls with
        | nil => rw [hls] at hF; cases hF
        | cons g ls =>
          rw [hls] at hF
          simp only at hF
          cases hr : rs[g.toNat]? with
          | none => rw [hr] at hF; cases hF
          | some r =>
            rw [hr] at hF
            cases hF
            have hm := h2 t (List.mem_of_getElem? ht)
            have hrm := h1 r (List.mem_of_getElem? hr)
            have hfit := right_first (fit_right (right_ring hR hr))
            refine ⟨by show (rs.set _ _).length ≤ 4; rw [List.length_set]; exact hz.2.1, by show es.length ≤ 4; omega, by show (ts.set _ _).length ≤ 12; rw [List.length_set]; exact hz.2.2.2, fun q hq => ?_, fun q hq => ?_⟩
            · rcases List.mem_or_eq_of_mem_set hq with hq | rfl
              · exact h1 q hq
              · refine ⟨by show (r.recs ++ [_]).length ≤ _; rw [List.length_append, List.length_singleton]; omega, hrm.2.1, fun s hs => ?_⟩
                rcases List.mem_append.1 hs with hs | hs
                · exact hrm.2.2 s hs
                · rw [List.mem_singleton.1 hs]; have := recText_size t.s ((k : Int) + 1) ⟨#[]⟩; omega
            · rcases List.mem_or_eq_of_mem_set hq with hq | rfl
              · exact h2 q hq
              · refine ⟨hm.1, ?_, hm.2.2⟩
                have := hm.2.1
                rw [hls] at this
                simp at this
                show ls.length ≤ _
                omega
end Go.Proofs.YtneiihikcnjglaaGreatDoor
