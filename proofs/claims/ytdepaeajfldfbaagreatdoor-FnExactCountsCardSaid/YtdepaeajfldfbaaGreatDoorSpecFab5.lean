import Derived.Test.YtdepaeajfldfbaaGreatDoorSpecFab3
import Derived.Deep.DrawnRows
import Derived.Laws.AppendOwn
/- The specification's fabrics: its transactions. -/
namespace Go.Proofs.YtdepaeajfldfbaaGreatDoor
open Go.RowKit
attribute [local go_sem ↓] Go.wp_at_zero Go.wp_at_succ
set_option linter.unusedSimpArgs false

theorem info_boolF : (Tryz.prog.info? 4).map (fun i => (i.zero, i.size, i.bytes)) = some (some (.bool false), 1, 1) := by kernel_rfl
/-- What stands while transactions are looked at. -/
structure OW (w wr : World) (o : Obj) (ts : List TD) (j : Nat) : Prop where
  fb : FB w wr o
  own : wr.ownsRow (w.heap.size + 1) 4 1 (.slice (some ⟨w.heap.size + 1, 0, none⟩) 5 5) 5 ((openL ts j).map Value.bool)
theorem OW.under {w u v : World} {o : Obj} {ts : List TD} {j : Nat} (h : OW w u o ts j) (hb : Below u.heap.size u v) : OW w v o ts j :=
  ⟨h.fb.under hb, h.own.kept (tbelow_grown hb) (by simp [Value.ownBlock])⟩
theorem OW.set {w u : World} {o : Obj} {ts : List TD} {j : Nat} {t : TD} (h : OW w u o ts j) (hj : ts[j]? = some t) (hs : t.s = 1) {P : Nat} (hP : t.p = (P : Int) + 1) (hP4 : P < 4) : OW w (u.setCell ⟨w.heap.size + 1, P + 1, none⟩ (.bool true)) o ts (j + 1) := by
  refine ⟨⟨(Below.heap_setCell u ⟨w.heap.size + 1, P + 1, none⟩ (.bool true) w.heap.size (by simp)).trans h.fb.box, h.fb.bel.setCell (p := ⟨w.heap.size + 1, P + 1, none⟩) (Nat.le_succ _) _⟩, ?_⟩
  have h1 := (h.own.stored (P + 1) (.bool true)).1
  rw [show ((openL ts j).map Value.bool).set (P + 1) (.bool true) = (openL ts (j + 1)).map Value.bool by
    rw [← openL_set hj hs (by omega), show t.p.toNat = P + 1 by omega, List.map_set]] at h1
  exact h1
theorem OW.skip {w u : World} {o : Obj} {ts : List TD} {j : Nat} {t : TD} (h : OW w u o ts j) (hj : ts[j]? = some t) (hs : t.s ≠ 1) : OW w u o ts (j + 1) := ⟨h.fb, by rw [openL_not hj hs]; exact h.own⟩
theorem ow_cell {w u : World} {o : Obj} {ts : List TD} {j : Nat} (h : OW w u o ts j) (P : Nat) (hP : P < 4) : u.cell? ⟨w.heap.size + 1, P + 1, none⟩ = some (.bool (openAt ts j ((P : Int) + 1))) := by
  rw [h.own.cellAt (P + 1) (by omega), List.getElem?_map, openL_at _ _ _ (by omega)]
  simp
/-- The same, with the one that is looked at. -/
structure TW (w v : World) (o : Obj) (ts : List TD) (j X : Nat) (t : TD) (ea : Option Addr) (es : List Int) : Prop where
  ow : OW w v o ts j
  box : v.heap[X]? = some t.obj
  fit : TFit v t
  eps : Nums v ea 4 es
theorem TW.under {w u v : World} {o : Obj} {ts : List TD} {j X : Nat} {t : TD} {ea : Option Addr} {es : List Int} (h : TW w u o ts j X t ea es) (hb : Below u.heap.size u v) : TW w v o ts j X t ea es :=
  ⟨h.ow.under hb, (hb.block _ (fb_lt h.box)).trans h.box, h.fit.below hb, nums_below h.eps hb⟩
theorem TW.draws {w u : World} {o : Obj} {ts : List TD} {j X : Nat} {t : TD} {ea : Option Addr} {es : List Int} (h : TW w u o ts j X t ea es) (n : Nat) : TW w (u.drewN n) o ts j X t ea es := h.under (tbelow_dn (Below.refl _ _) n)
theorem tfit_no1 {es : List Int} {n : Nat} {now : Int} {t : TD} (h : txnRightB t.p t.e t.s t.u t.rs t.ls = false) : txnFitB es n now t = false := by simp [txnFitB, h]
theorem tfit_no2 {es : List Int} {n : Nat} {now V : Int} {t : TD} (hV : epochAt es t.p = V) (h : V < t.e) : txnFitB es n now t = false := by
  have : ¬ t.e ≤ epochAt es t.p := by omega
  simp [txnFitB, this]
theorem tfit_no3 {es : List Int} {n : Nat} {now : Int} {t : TD} (h : ringsIn n t.rs = false) : txnFitB es n now t = false := by simp [txnFitB, h]
theorem tfit_no4 {es : List Int} {n : Nat} {now V : Int} {t : TD} (hV : epochAt es t.p = V) (hs : t.s = 1) (h : ¬ t.e = V) : txnFitB es n now t = false := by
  rw [← hV] at h
  simp [txnFitB, hs, h]
theorem tfit_no5 {es : List Int} {n : Nat} {now : Int} {t : TD} (hs : t.s = 1) (h : ¬ now < t.u) : txnFitB es n now t = false := by
  simp [txnFitB, hs, h]
theorem tfit_yes {es : List Int} {n : Nat} {now V : Int} {t : TD} (hV : epochAt es t.p = V) (h1 : txnRightB t.p t.e t.s t.u t.rs t.ls = true) (h2 : t.e ≤ V) (h3 : ringsIn n t.rs = true) (h4 : t.s = 1 → t.e = V ∧ now < t.u) : txnFitB es n now t = true := by
  rw [← hV] at h2 h4
  simp [txnFitB, h1, h2, h3]
  by_cases hs : t.s = 1
  · exact .inr (h4 hs)
  · exact .inl hs
set_option maxRecDepth 100000 in
set_option maxHeartbeats 8000000 in
theorem spec_ltxns (ra : Option Addr) (rl rc : Nat) (ea : Option Addr) (ec : Nat) (ta : Option Addr) (tl tc : Nat) (now : Int) (es : List Int) (ts : List TD) (w : World) (hT : Txs w ta tl ts) (hE : Nums w ea 4 es) (htl : tl ≤ 1048576) (_hrl : rl ≤ 1048576) :
    Calls Tryz.prog 32 #[fabVal ra rl rc ea 4 ec ta tl tc now] w fun e w' => e = .returned (.bool (txnsFitB es rl now ts)) ∧ Below w.heap.size w w' := by
  obtain ⟨i0, hi0, hz0, hz1, hz2⟩ := info_parts info_boolF
  have HT : Hid (Txs w ta tl ts) := hT
  have HL : Hid (ts.length = tl) := hT.1
  have HE : Hid (Nums w ea 4 es) := hE
  clear hT hE
  have HF : Hid (FB w (w.alloc (fabO ra rl rc ea 4 ec ta tl tc now)) (fabO ra rl rc ea 4 ec ta tl tc now)) := fb_new _ _ _
  go_enter Tryz.func32, Tryz.ntmps32
  go_wp2_with (at_make; refine wpList_make_full _ rfl _ _ 106 rfl (w.heap.size + 1) 4 i0 _ 1 Tryz.underlying106 hi0 hz0 hz1 _ _ _ _ 5 rfl rfl rfl rfl (by rw [hz2]; omega) (by unfold maxLen; omega) (by simp) ?_; intro w1 ho1 hg1)
  have HO : Hid (OW w w1 (fabO ra rl rc ea 4 ec ta tl tc now) ts 0) := ⟨HF.out.under (below_of_grown hg1), by rw [openL_zero]; rw [show (madeCells (Value.cells (.bool false)) (5 * 1)).toList = [Value.bool false, Value.bool false, Value.bool false, Value.bool false, Value.bool false] from by kernel_rfl] at ho1; simp only [World.size_alloc] at ho1; exact ho1⟩
  clear ho1 hg1 HF
  go_loopw [4] (fun i wr => ∃ j : Nat, j ≤ tl ∧ i = .int .i64 j ∧ Hid (txnTo es rl now ts j) ∧ Hid (openTo ts j) ∧ Hid (OW w wr (fabO ra rl rc ea 4 ec ta tl tc now) ts j)) (fun i _ => tl - (intOf i).toNat)
  case atStart => exact ⟨0, by omega, rfl, fun j hj => by omega, fun i j _ hj => by omega, HO.out⟩
  case round =>
    obtain ⟨j, hj, rfl, hto, hop, hw⟩ := hrel
    clear HO
    have hB := fun o => fb_cell hw.out.fb.box o
    by_cases hlt : j < tl
    · obtain ⟨b, off, t, rfl, e1, g0, g1, g2, g3, g4, g5, hf⟩ := txsG_at keeps_tfit HT.out hw.out.fb.bel hlt
      have HJ : Hid (ts[j]? = some t) := e1
      have H0 : Hid (TW w (wr.alloc t.obj) (fabO ra rl rc ea 4 ec (some ⟨b, off, none⟩) tl tc now) ts j wr.heap.size t ea es) := ⟨hw.out.under (fbelow_new _ _), heap_alloc_new _ _, hf.out.below (fbelow_new _ _), nums_below HE.out (below_tr hw.out.fb.bel (fbelow_new _ _))⟩
      clear hf hw e1
      obtain ⟨p, e, s, u, ra', rl', rc', la', ll', lc', rs', ls'⟩ := t
      simp only at g0 g1 g2 g3 g4 g5
      have HR : Hid _ := fun w h => spec_txnRight (p := p) (e := e) (s := s) (u := u) (ra := ra') (rl := rl') (rc := rc') (la := la') (ll := ll') (lc := lc') rs' ls' w h
      have hRB := fun h => txnRight_bnd (p := p) (e := e) (s := s) (u := u) (rs := rs') (ls := ls') h
      obtain ⟨R, hR⟩ : ∃ R, txnRightB p e s u rs' ls' = R := ⟨_, rfl⟩
      rw [hR] at HR hRB
      go_upto_region 6 with fail
      obtain ⟨W, hW⟩ : ∃ W, wr.alloc (txnObj p e s u ra' rl' rc' la' ll' lc') = W := ⟨_, rfl⟩
      obtain ⟨X, hX⟩ : ∃ X, wr.heap.size = X := ⟨_, rfl⟩
      have H0' : Hid (TW w W (fabO ra rl rc ea 4 ec (some ⟨b, off, none⟩) tl tc now) ts j X ⟨p, e, s, u, ra', rl', rc', la', ll', lc', rs', ls'⟩ ea es) := by rw [← hW, ← hX]; exact H0.out
      rw [hW, hX]
      clear hW H0 hX hB
      replace H0 := H0'
      clear H0'
      cases R with
      | false =>
        have hE : Hid (txnsFitB es rl now ts = false) := fits_no HJ.out (tfit_no1 hR)
        clear hR hRB hto hop
        refine wp_region_held_drew (S := (fun x => (∀ o, x.cell? ⟨X, o, none⟩ = (#[.int .i64 p, .int .i64 e, .int .i64 s, .int .i64 u, .slice ra' rl' rc', .slice la' ll' lc'] : Array Value)[o]?) ∧ (∀ o, x.cell? ⟨w.heap.size, o, none⟩ = (#[.slice ra rl rc, .slice ea 4 ec, .slice (some ⟨b, off, none⟩) tl tc, .int .i64 now] : Array Value)[o]?))) (by kernel_rfl) (⟨fun o => fb_cell (H0.out.under ((Below.refl _ _).drew)).box o, fun o => fb_cell (H0.out.under ((Below.refl _ _).drew)).ow.fb.box o⟩) (fun hHeld => ?_)
        refine wpAnyH_take (i := 0) (v := ?_) rfl (by kernel_rfl) (by kernel_rfl) (by kernel_rfl) (fun _ _ _ h => h) (Or.inl ⟨by rfl, ?_⟩) hHeld ?_
        rotate_left
        · intro wy hSw; (try dsimp only at hSw); go_simp; (try with_reducible rfl)
        try simp only [Act.put, List.getElem_toArray, List.getElem_cons_zero, List.getElem_cons_succ, List.setIfInBounds_toArray, List.set_cons_zero, List.set_cons_succ]
        refine wpAnyH_ready (rs := [1]) (by kernel_rfl) (by simp) ?_
        refine AllReadyH.cons rfl (fun K hK => ?_) AllReadyH.nil
        go_simp
        refine (HR.out _ (H0.out.fit.tin.below ((Below.refl _ _).drew))).mono ?_; rintro x v ⟨rfl, hbv⟩; have H1 : Hid (TW w v (fabO ra rl rc ea 4 ec (some ⟨b, off, none⟩) tl tc now) ts j X ⟨p, e, s, u, ra', rl', rc', la', ll', lc', rs', ls'⟩ ea es) := H0.out.under (below_tr ((Below.refl _ _).drew) hbv); clear hbv
        go_wp2_with fail
        refine hK.out _ _ ?_ (fun hHeld => ?_)
        · exact ⟨fun o => fb_cell H1.out.box o, fun o => fb_cell H1.out.ow.fb.box o⟩
        clear hK K
        try simp only [Act.put, List.getElem_toArray, List.getElem_cons_zero, List.getElem_cons_succ, List.setIfInBounds_toArray, List.set_cons_zero, List.set_cons_succ]
        refine wpAnyH_take (i := 2) (v := ?_) rfl (by kernel_rfl) (by kernel_rfl) (by kernel_rfl) (fun _ _ _ h => h) (Or.inl ⟨by rfl, ?_⟩) hHeld ?_
        rotate_left
        · intro wy hSw; (try dsimp only at hSw); go_simp; (try with_reducible rfl)
        try simp only [Act.put, List.getElem_toArray, List.getElem_cons_zero, List.getElem_cons_succ, List.setIfInBounds_toArray, List.set_cons_zero, List.set_cons_succ]
        refine wpAnyH_take (i := 3) (v := ?_) rfl (by kernel_rfl) (by kernel_rfl) (by kernel_rfl) (fun _ _ _ h => h) (Or.inl ⟨by rfl, ?_⟩) hHeld ?_
        rotate_left
        · intro wy hSw; (try dsimp only at hSw); go_simp; (try with_reducible rfl)
        try simp only [Act.put, List.getElem_toArray, List.getElem_cons_zero, List.getElem_cons_succ, List.setIfInBounds_toArray, List.set_cons_zero, List.set_cons_succ]
        refine wpAnyH_take (i := 4) (v := undef) rfl (by kernel_rfl) (by kernel_rfl) (by kernel_rfl) (fun _ _ _ h => h) (Or.inr ⟨by rfl, rfl⟩) hHeld ?_
        try simp only [Act.put, List.getElem_toArray, List.getElem_cons_zero, List.getElem_cons_succ, List.setIfInBounds_toArray, List.set_cons_zero, List.set_cons_succ]
        refine wpAnyH_take (i := 5) (v := undef) rfl (by kernel_rfl) (by kernel_rfl) (by kernel_rfl) (fun _ _ _ h => h) (Or.inr ⟨by rfl, rfl⟩) hHeld ?_
        try simp only [Act.put, List.getElem_toArray, List.getElem_cons_zero, List.getElem_cons_succ, List.setIfInBounds_toArray, List.set_cons_zero, List.set_cons_succ]
        refine wpAnyH_take (i := 6) (v := undef) rfl (by kernel_rfl) (by kernel_rfl) (by kernel_rfl) (fun _ _ _ h => h) (Or.inr ⟨by rfl, rfl⟩) hHeld ?_
        try simp only [Act.put, List.getElem_toArray, List.getElem_cons_zero, List.getElem_cons_succ, List.setIfInBounds_toArray, List.set_cons_zero, List.set_cons_succ]
        refine wpAnyH_take (i := 7) (v := undef) rfl (by kernel_rfl) (by kernel_rfl) (by kernel_rfl) (fun _ _ _ h => h) (Or.inr ⟨by rfl, rfl⟩) hHeld ?_
        try simp only [Act.put, List.getElem_toArray, List.getElem_cons_zero, List.getElem_cons_succ, List.setIfInBounds_toArray, List.set_cons_zero, List.set_cons_succ]
        refine wpAnyH_take (i := 8) (v := undef) rfl (by kernel_rfl) (by kernel_rfl) (by kernel_rfl) (fun _ _ _ h => h) (Or.inr ⟨by rfl, rfl⟩) hHeld ?_
        try simp only [Act.put, List.getElem_toArray, List.getElem_cons_zero, List.getElem_cons_succ, List.setIfInBounds_toArray, List.set_cons_zero, List.set_cons_succ]
        refine wpAnyH_take (i := 9) (v := undef) rfl (by kernel_rfl) (by kernel_rfl) (by kernel_rfl) (fun _ _ _ h => h) (Or.inr ⟨by rfl, rfl⟩) hHeld ?_
        try simp only [Act.put, List.getElem_toArray, List.getElem_cons_zero, List.getElem_cons_succ, List.setIfInBounds_toArray, List.set_cons_zero, List.set_cons_succ]
        refine wpAnyH_take (i := 10) (v := undef) rfl (by kernel_rfl) (by kernel_rfl) (by kernel_rfl) (fun _ _ _ h => h) (Or.inr ⟨by rfl, rfl⟩) hHeld ?_
        try simp only [Act.put, List.getElem_toArray, List.getElem_cons_zero, List.getElem_cons_succ, List.setIfInBounds_toArray, List.set_cons_zero, List.set_cons_succ]
        refine wpAnyH_take (i := 11) (v := undef) rfl (by kernel_rfl) (by kernel_rfl) (by kernel_rfl) (fun _ _ _ h => h) (Or.inr ⟨by rfl, rfl⟩) hHeld ?_
        try simp only [Act.put, List.getElem_toArray, List.getElem_cons_zero, List.getElem_cons_succ, List.setIfInBounds_toArray, List.set_cons_zero, List.set_cons_succ]
        refine wpAnyH_take (i := 12) (v := undef) rfl (by kernel_rfl) (by kernel_rfl) (by kernel_rfl) (fun _ _ _ h => h) (Or.inr ⟨by rfl, rfl⟩) hHeld ?_
        try simp only [Act.put, List.getElem_toArray, List.getElem_cons_zero, List.getElem_cons_succ, List.setIfInBounds_toArray, List.set_cons_zero, List.set_cons_succ]
        refine wpAnyH_take (i := 13) (v := undef) rfl (by kernel_rfl) (by kernel_rfl) (by kernel_rfl) (fun _ _ _ h => h) (Or.inr ⟨by rfl, rfl⟩) hHeld ?_
        try simp only [Act.put, List.getElem_toArray, List.getElem_cons_zero, List.getElem_cons_succ, List.setIfInBounds_toArray, List.set_cons_zero, List.set_cons_succ]
        refine wpAnyH_take (i := 14) (v := ?_) rfl (by kernel_rfl) (by kernel_rfl) (by kernel_rfl) (fun _ _ _ h => h) (Or.inl ⟨by rfl, ?_⟩) hHeld ?_
        rotate_left
        · intro wy hSw; (try dsimp only at hSw); go_simp; (try with_reducible rfl)
        try simp only [Act.put, List.getElem_toArray, List.getElem_cons_zero, List.getElem_cons_succ, List.setIfInBounds_toArray, List.set_cons_zero, List.set_cons_succ]
        refine wpAnyH_done (by kernel_rfl) ?_ _
        go_wp2
        go_ret
        exact ⟨ret_bool hE.out.symm, H1.out.ow.fb.bel⟩
      | true =>
        have hbn := hRB rfl
        clear hRB
        obtain ⟨P, hP⟩ : ∃ P : Nat, p = (P : Int) + 1 := ⟨(p - 1).toNat, by omega⟩
        subst hP
        have hP4 : P < 4 := by omega
        have HRB : Hid (ringsB rs' = true) := hbn.2.2.2.2.1
        have hR1 : Hid (txnRightB ((P : Int) + 1) e s u rs' ls' = true) := hR
        clear hbn hR
        obtain ⟨b2, off2, V, rfl, hV, cV⟩ := nums_at H0.out.eps (Below.refl _ _) (k := P) hP4
        have hEV : Hid (epochAt es ((P : Int) + 1) = V) := epoch_at (by omega) hV
        clear hV
        have hW1 : IntKind.i64.wrap (P : Int) = (P : Int) := twrap_in _ (by omega) (by omega)
        have hPI : (P : Int) < 4 := by omega
        by_cases hVe : V < e
        · have hE : Hid (txnsFitB es rl now ts = false) := fits_no HJ.out (tfit_no2 hEV.out hVe)
          clear hto hop
          refine wp_region_held_drew (S := (fun x => (∀ o, x.cell? ⟨X, o, none⟩ = (#[.int .i64 ((P : Int) + 1), .int .i64 e, .int .i64 s, .int .i64 u, .slice ra' rl' rc', .slice la' ll' lc'] : Array Value)[o]?) ∧ (∀ o, x.cell? ⟨w.heap.size, o, none⟩ = (#[.slice ra rl rc, .slice (some ⟨b2, off2, none⟩) 4 ec, .slice (some ⟨b, off, none⟩) tl tc, .int .i64 now] : Array Value)[o]?) ∧ x.cell? ⟨b2, off2 + P, none⟩ = some (.int .i64 V))) (by kernel_rfl) (⟨fun o => fb_cell (H0.out.under ((Below.refl _ _).drew)).box o, fun o => fb_cell (H0.out.under ((Below.refl _ _).drew)).ow.fb.box o, cell_below cV ((Below.refl _ _).drew)⟩) (fun hHeld => ?_)
          refine wpAnyH_take (i := 0) (v := ?_) rfl (by kernel_rfl) (by kernel_rfl) (by kernel_rfl) (fun _ _ _ h => h) (Or.inl ⟨by rfl, ?_⟩) hHeld ?_
          rotate_left
          · intro wy hSw; (try dsimp only at hSw); go_simp; (try with_reducible rfl)
          try simp only [Act.put, List.getElem_toArray, List.getElem_cons_zero, List.getElem_cons_succ, List.setIfInBounds_toArray, List.set_cons_zero, List.set_cons_succ]
          refine wpAnyH_ready (rs := [1]) (by kernel_rfl) (by simp) ?_
          refine AllReadyH.cons rfl (fun K hK => ?_) AllReadyH.nil
          go_simp
          refine (HR.out _ (H0.out.fit.tin.below ((Below.refl _ _).drew))).mono ?_; rintro x v ⟨rfl, hbv⟩; have H1 : Hid (TW w v (fabO ra rl rc (some ⟨b2, off2, none⟩) 4 ec (some ⟨b, off, none⟩) tl tc now) ts j X ⟨(P : Int) + 1, e, s, u, ra', rl', rc', la', ll', lc', rs', ls'⟩ (some ⟨b2, off2, none⟩) es) := H0.out.under (below_tr ((Below.refl _ _).drew) hbv); have cW := cell_below cV (below_tr ((Below.refl _ _).drew) hbv); clear hbv
          go_wp2_with fail
          refine hK.out _ _ ?_ (fun hHeld => ?_)
          · exact ⟨fun o => fb_cell H1.out.box o, fun o => fb_cell H1.out.ow.fb.box o, cW⟩
          clear hK K
          try simp only [Act.put, List.getElem_toArray, List.getElem_cons_zero, List.getElem_cons_succ, List.setIfInBounds_toArray, List.set_cons_zero, List.set_cons_succ]
          refine wpAnyH_take (i := 2) (v := ?_) rfl (by kernel_rfl) (by kernel_rfl) (by kernel_rfl) (fun _ _ _ h => h) (Or.inl ⟨by rfl, ?_⟩) hHeld ?_
          rotate_left
          · intro wy hSw; (try dsimp only at hSw); go_simp; (try with_reducible rfl)
          try simp only [Act.put, List.getElem_toArray, List.getElem_cons_zero, List.getElem_cons_succ, List.setIfInBounds_toArray, List.set_cons_zero, List.set_cons_succ]
          refine wpAnyH_take (i := 3) (v := ?_) rfl (by kernel_rfl) (by kernel_rfl) (by kernel_rfl) (fun _ _ _ h => h) (Or.inl ⟨by rfl, ?_⟩) hHeld ?_
          rotate_left
          · intro wy hSw; (try dsimp only at hSw); go_simp; (try with_reducible rfl)
          try simp only [Act.put, List.getElem_toArray, List.getElem_cons_zero, List.getElem_cons_succ, List.setIfInBounds_toArray, List.set_cons_zero, List.set_cons_succ]
          refine wpAnyH_take (i := 4) (v := ?_) rfl (by kernel_rfl) (by kernel_rfl) (by kernel_rfl) (fun _ _ _ h => h) (Or.inl ⟨by rfl, ?_⟩) hHeld ?_
          rotate_left
          · intro wy hSw; (try dsimp only at hSw); go_simp; (try with_reducible rfl)
          try simp only [Act.put, List.getElem_toArray, List.getElem_cons_zero, List.getElem_cons_succ, List.setIfInBounds_toArray, List.set_cons_zero, List.set_cons_succ]
          refine wpAnyH_take (i := 5) (v := ?_) rfl (by kernel_rfl) (by kernel_rfl) (by kernel_rfl) (fun _ _ _ h => h) (Or.inl ⟨by rfl, ?_⟩) hHeld ?_
          rotate_left
          · intro wy hSw; (try dsimp only at hSw); go_simp; (try with_reducible rfl)
          try simp only [Act.put, List.getElem_toArray, List.getElem_cons_zero, List.getElem_cons_succ, List.setIfInBounds_toArray, List.set_cons_zero, List.set_cons_succ]
          refine wpAnyH_take (i := 6) (v := ?_) rfl (by kernel_rfl) (by kernel_rfl) (by kernel_rfl) (fun _ _ _ h => h) (Or.inl ⟨by rfl, ?_⟩) hHeld ?_
          rotate_left
          · intro wy hSw; (try dsimp only at hSw); go_simp; (try with_reducible rfl)
          try simp only [Act.put, List.getElem_toArray, List.getElem_cons_zero, List.getElem_cons_succ, List.setIfInBounds_toArray, List.set_cons_zero, List.set_cons_succ]
          refine wpAnyH_take (i := 7) (v := ?_) rfl (by kernel_rfl) (by kernel_rfl) (by kernel_rfl) (fun _ _ _ h => h) (Or.inl ⟨by rfl, ?_⟩) hHeld ?_
          rotate_left
          · intro wy hSw; (try dsimp only at hSw); go_simp; (try with_reducible rfl)
          try simp only [Act.put, List.getElem_toArray, List.getElem_cons_zero, List.getElem_cons_succ, List.setIfInBounds_toArray, List.set_cons_zero, List.set_cons_succ]
          refine wpAnyH_take (i := 8) (v := ?_) rfl (by kernel_rfl) (by kernel_rfl) (by kernel_rfl) (fun _ _ _ h => h) (Or.inl ⟨by rfl, ?_⟩) hHeld ?_
          rotate_left
          · intro wy hSw; (try dsimp only at hSw); go_simp; (try with_reducible rfl)
          try simp only [Act.put, List.getElem_toArray, List.getElem_cons_zero, List.getElem_cons_succ, List.setIfInBounds_toArray, List.set_cons_zero, List.set_cons_succ]
          refine wpAnyH_take (i := 9) (v := ?_) rfl (by kernel_rfl) (by kernel_rfl) (by kernel_rfl) (fun _ _ _ h => h) (Or.inl ⟨by rfl, ?_⟩) hHeld ?_
          rotate_left
          · intro wy hSw; (try dsimp only at hSw); go_simp; (try with_reducible rfl)
          try simp only [Act.put, List.getElem_toArray, List.getElem_cons_zero, List.getElem_cons_succ, List.setIfInBounds_toArray, List.set_cons_zero, List.set_cons_succ]
          refine wpAnyH_take (i := 10) (v := ?_) rfl (by kernel_rfl) (by kernel_rfl) (by kernel_rfl) (fun _ _ _ h => h) (Or.inl ⟨by rfl, ?_⟩) hHeld ?_
          rotate_left
          · intro wy hSw; (try dsimp only at hSw); go_simp; (try with_reducible rfl)
          try simp only [Act.put, List.getElem_toArray, List.getElem_cons_zero, List.getElem_cons_succ, List.setIfInBounds_toArray, List.set_cons_zero, List.set_cons_succ]
          refine wpAnyH_take (i := 11) (v := ?_) rfl (by kernel_rfl) (by kernel_rfl) (by kernel_rfl) (fun _ _ _ h => h) (Or.inl ⟨by rfl, ?_⟩) hHeld ?_
          rotate_left
          · intro wy hSw; (try dsimp only at hSw); go_simp; (try with_reducible rfl)
          try simp only [Act.put, List.getElem_toArray, List.getElem_cons_zero, List.getElem_cons_succ, List.setIfInBounds_toArray, List.set_cons_zero, List.set_cons_succ]
          refine wpAnyH_take (i := 12) (v := ?_) rfl (by kernel_rfl) (by kernel_rfl) (by kernel_rfl) (fun _ _ _ h => h) (Or.inl ⟨by rfl, ?_⟩) hHeld ?_
          rotate_left
          · intro wy hSw; (try dsimp only at hSw); go_simp; (try with_reducible rfl)
          try simp only [Act.put, List.getElem_toArray, List.getElem_cons_zero, List.getElem_cons_succ, List.setIfInBounds_toArray, List.set_cons_zero, List.set_cons_succ]
          refine wpAnyH_take (i := 13) (v := ?_) rfl (by kernel_rfl) (by kernel_rfl) (by kernel_rfl) (fun _ _ _ h => h) (Or.inl ⟨by rfl, ?_⟩) hHeld ?_
          rotate_left
          · intro wy hSw; (try dsimp only at hSw); go_simp; (try with_reducible rfl)
          try simp only [Act.put, List.getElem_toArray, List.getElem_cons_zero, List.getElem_cons_succ, List.setIfInBounds_toArray, List.set_cons_zero, List.set_cons_succ]
          refine wpAnyH_take (i := 14) (v := ?_) rfl (by kernel_rfl) (by kernel_rfl) (by kernel_rfl) (fun _ _ _ h => h) (Or.inl ⟨by rfl, ?_⟩) hHeld ?_
          rotate_left
          · intro wy hSw; (try dsimp only at hSw); go_simp; (try with_reducible rfl)
          try simp only [Act.put, List.getElem_toArray, List.getElem_cons_zero, List.getElem_cons_succ, List.setIfInBounds_toArray, List.set_cons_zero, List.set_cons_succ]
          refine wpAnyH_done (by kernel_rfl) ?_ _
          go_wp2
          go_ret
          exact ⟨ret_bool hE.out.symm, H1.out.ow.fb.bel⟩
        · refine wp_region_held_drew (S := (fun x => (∀ o, x.cell? ⟨X, o, none⟩ = (#[.int .i64 ((P : Int) + 1), .int .i64 e, .int .i64 s, .int .i64 u, .slice ra' rl' rc', .slice la' ll' lc'] : Array Value)[o]?) ∧ (∀ o, x.cell? ⟨w.heap.size, o, none⟩ = (#[.slice ra rl rc, .slice (some ⟨b2, off2, none⟩) 4 ec, .slice (some ⟨b, off, none⟩) tl tc, .int .i64 now] : Array Value)[o]?) ∧ x.cell? ⟨b2, off2 + P, none⟩ = some (.int .i64 V))) (by kernel_rfl) (⟨fun o => fb_cell (H0.out.under ((Below.refl _ _).drew)).box o, fun o => fb_cell (H0.out.under ((Below.refl _ _).drew)).ow.fb.box o, cell_below cV ((Below.refl _ _).drew)⟩) (fun hHeld => ?_)
          refine wpAnyH_take (i := 0) (v := ?_) rfl (by kernel_rfl) (by kernel_rfl) (by kernel_rfl) (fun _ _ _ h => h) (Or.inl ⟨by rfl, ?_⟩) hHeld ?_
          rotate_left
          · intro wy hSw; (try dsimp only at hSw); go_simp; (try with_reducible rfl)
          try simp only [Act.put, List.getElem_toArray, List.getElem_cons_zero, List.getElem_cons_succ, List.setIfInBounds_toArray, List.set_cons_zero, List.set_cons_succ]
          refine wpAnyH_ready (rs := [1]) (by kernel_rfl) (by simp) ?_
          refine AllReadyH.cons rfl (fun K hK => ?_) AllReadyH.nil
          go_simp
          refine (HR.out _ (H0.out.fit.tin.below ((Below.refl _ _).drew))).mono ?_; rintro x v ⟨rfl, hbv⟩; have H1 : Hid (TW w v (fabO ra rl rc (some ⟨b2, off2, none⟩) 4 ec (some ⟨b, off, none⟩) tl tc now) ts j X ⟨(P : Int) + 1, e, s, u, ra', rl', rc', la', ll', lc', rs', ls'⟩ (some ⟨b2, off2, none⟩) es) := H0.out.under (below_tr ((Below.refl _ _).drew) hbv); have cW := cell_below cV (below_tr ((Below.refl _ _).drew) hbv); clear hbv
          go_wp2_with fail
          refine hK.out _ _ ?_ (fun hHeld => ?_)
          · exact ⟨fun o => fb_cell H1.out.box o, fun o => fb_cell H1.out.ow.fb.box o, cW⟩
          clear hK K
          try simp only [Act.put, List.getElem_toArray, List.getElem_cons_zero, List.getElem_cons_succ, List.setIfInBounds_toArray, List.set_cons_zero, List.set_cons_succ]
          refine wpAnyH_take (i := 2) (v := ?_) rfl (by kernel_rfl) (by kernel_rfl) (by kernel_rfl) (fun _ _ _ h => h) (Or.inl ⟨by rfl, ?_⟩) hHeld ?_
          rotate_left
          · intro wy hSw; (try dsimp only at hSw); go_simp; (try with_reducible rfl)
          try simp only [Act.put, List.getElem_toArray, List.getElem_cons_zero, List.getElem_cons_succ, List.setIfInBounds_toArray, List.set_cons_zero, List.set_cons_succ]
          refine wpAnyH_take (i := 3) (v := ?_) rfl (by kernel_rfl) (by kernel_rfl) (by kernel_rfl) (fun _ _ _ h => h) (Or.inl ⟨by rfl, ?_⟩) hHeld ?_
          rotate_left
          · intro wy hSw; (try dsimp only at hSw); go_simp; (try with_reducible rfl)
          try simp only [Act.put, List.getElem_toArray, List.getElem_cons_zero, List.getElem_cons_succ, List.setIfInBounds_toArray, List.set_cons_zero, List.set_cons_succ]
          refine wpAnyH_take (i := 4) (v := ?_) rfl (by kernel_rfl) (by kernel_rfl) (by kernel_rfl) (fun _ _ _ h => h) (Or.inl ⟨by rfl, ?_⟩) hHeld ?_
          rotate_left
          · intro wy hSw; (try dsimp only at hSw); go_simp; (try with_reducible rfl)
          try simp only [Act.put, List.getElem_toArray, List.getElem_cons_zero, List.getElem_cons_succ, List.setIfInBounds_toArray, List.set_cons_zero, List.set_cons_succ]
          refine wpAnyH_take (i := 5) (v := ?_) rfl (by kernel_rfl) (by kernel_rfl) (by kernel_rfl) (fun _ _ _ h => h) (Or.inl ⟨by rfl, ?_⟩) hHeld ?_
          rotate_left
          · intro wy hSw; (try dsimp only at hSw); go_simp; (try with_reducible rfl)
          try simp only [Act.put, List.getElem_toArray, List.getElem_cons_zero, List.getElem_cons_succ, List.setIfInBounds_toArray, List.set_cons_zero, List.set_cons_succ]
          refine wpAnyH_take (i := 6) (v := ?_) rfl (by kernel_rfl) (by kernel_rfl) (by kernel_rfl) (fun _ _ _ h => h) (Or.inl ⟨by rfl, ?_⟩) hHeld ?_
          rotate_left
          · intro wy hSw; (try dsimp only at hSw); go_simp; (try with_reducible rfl)
          try simp only [Act.put, List.getElem_toArray, List.getElem_cons_zero, List.getElem_cons_succ, List.setIfInBounds_toArray, List.set_cons_zero, List.set_cons_succ]
          refine wpAnyH_take (i := 7) (v := ?_) rfl (by kernel_rfl) (by kernel_rfl) (by kernel_rfl) (fun _ _ _ h => h) (Or.inl ⟨by rfl, ?_⟩) hHeld ?_
          rotate_left
          · intro wy hSw; (try dsimp only at hSw); go_simp; (try with_reducible rfl)
          try simp only [Act.put, List.getElem_toArray, List.getElem_cons_zero, List.getElem_cons_succ, List.setIfInBounds_toArray, List.set_cons_zero, List.set_cons_succ]
          refine wpAnyH_take (i := 8) (v := ?_) rfl (by kernel_rfl) (by kernel_rfl) (by kernel_rfl) (fun _ _ _ h => h) (Or.inl ⟨by rfl, ?_⟩) hHeld ?_
          rotate_left
          · intro wy hSw; (try dsimp only at hSw); go_simp; (try with_reducible rfl)
          try simp only [Act.put, List.getElem_toArray, List.getElem_cons_zero, List.getElem_cons_succ, List.setIfInBounds_toArray, List.set_cons_zero, List.set_cons_succ]
          refine wpAnyH_take (i := 9) (v := ?_) rfl (by kernel_rfl) (by kernel_rfl) (by kernel_rfl) (fun _ _ _ h => h) (Or.inl ⟨by rfl, ?_⟩) hHeld ?_
          rotate_left
          · intro wy hSw; (try dsimp only at hSw); go_simp; (try with_reducible rfl)
          try simp only [Act.put, List.getElem_toArray, List.getElem_cons_zero, List.getElem_cons_succ, List.setIfInBounds_toArray, List.set_cons_zero, List.set_cons_succ]
          refine wpAnyH_take (i := 10) (v := ?_) rfl (by kernel_rfl) (by kernel_rfl) (by kernel_rfl) (fun _ _ _ h => h) (Or.inl ⟨by rfl, ?_⟩) hHeld ?_
          rotate_left
          · intro wy hSw; (try dsimp only at hSw); go_simp; (try with_reducible rfl)
          try simp only [Act.put, List.getElem_toArray, List.getElem_cons_zero, List.getElem_cons_succ, List.setIfInBounds_toArray, List.set_cons_zero, List.set_cons_succ]
          refine wpAnyH_take (i := 11) (v := ?_) rfl (by kernel_rfl) (by kernel_rfl) (by kernel_rfl) (fun _ _ _ h => h) (Or.inl ⟨by rfl, ?_⟩) hHeld ?_
          rotate_left
          · intro wy hSw; (try dsimp only at hSw); go_simp; (try with_reducible rfl)
          try simp only [Act.put, List.getElem_toArray, List.getElem_cons_zero, List.getElem_cons_succ, List.setIfInBounds_toArray, List.set_cons_zero, List.set_cons_succ]
          refine wpAnyH_take (i := 12) (v := ?_) rfl (by kernel_rfl) (by kernel_rfl) (by kernel_rfl) (fun _ _ _ h => h) (Or.inl ⟨by rfl, ?_⟩) hHeld ?_
          rotate_left
          · intro wy hSw; (try dsimp only at hSw); go_simp; (try with_reducible rfl)
          try simp only [Act.put, List.getElem_toArray, List.getElem_cons_zero, List.getElem_cons_succ, List.setIfInBounds_toArray, List.set_cons_zero, List.set_cons_succ]
          refine wpAnyH_take (i := 13) (v := ?_) rfl (by kernel_rfl) (by kernel_rfl) (by kernel_rfl) (fun _ _ _ h => h) (Or.inl ⟨by rfl, ?_⟩) hHeld ?_
          rotate_left
          · intro wy hSw; (try dsimp only at hSw); go_simp; (try with_reducible rfl)
          try simp only [Act.put, List.getElem_toArray, List.getElem_cons_zero, List.getElem_cons_succ, List.setIfInBounds_toArray, List.set_cons_zero, List.set_cons_succ]
          refine wpAnyH_take (i := 14) (v := ?_) rfl (by kernel_rfl) (by kernel_rfl) (by kernel_rfl) (fun _ _ _ h => h) (Or.inl ⟨by rfl, ?_⟩) hHeld ?_
          rotate_left
          · intro wy hSw; (try dsimp only at hSw); go_simp; (try with_reducible rfl)
          try simp only [Act.put, List.getElem_toArray, List.getElem_cons_zero, List.getElem_cons_succ, List.setIfInBounds_toArray, List.set_cons_zero, List.set_cons_succ]
          refine wpAnyH_done (by kernel_rfl) ?_ _
          clear H0 cV
          have ct := fun o => fb_cell H1.out.box o
          have cf := fun o => fb_cell H1.out.ow.fb.box o
          go_upto_region 8 with fail
          go_cut [51] from 7 to 82 (fun s51 wc => s51 = .bool (!(ringsIn rl rs')) ∧ Hid (TW w wc (fabO ra rl rc (some ⟨b2, off2, none⟩) 4 ec (some ⟨b, off, none⟩) tl tc now) ts j X ⟨(P : Int) + 1, e, s, u, ra', rl', rc', la', ll', lc', rs', ls'⟩ (some ⟨b2, off2, none⟩) es))
          case first =>
            have hlen : rs'.length = rl' := H1.out.fit.r.nums.1
            cases rl' with
            | zero =>
              have hn : rs' = [] := List.length_eq_zero_iff.1 hlen
              subst hn
              go_quiet (first | (fail))
              go_wp2_with fail
              go_meet
              exact ⟨rfl, H1.out.draws _⟩
            | succ M =>
              obtain ⟨b3, off3, V3, rfl, hV3, cV3⟩ := nums_at H1.out.fit.r.nums (Below.refl _ _) (k := M) (show M < M + 1 by omega)
              have hW3 : IntKind.i64.wrap (M : Int) = (M : Int) := by have : M + 1 ≤ 1048576 := H1.out.fit.rle; exact twrap_in _ (by omega) (by omega)
              have hML : (M : Int) < ((M + 1 : Nat) : Int) := by omega
              have hI : ringsIn rl rs' = decide (V3 < (rl : Int)) := ringsIn_last (by omega) hV3 HRB.out
              by_cases h3 : V3 < (rl : Int)
              · go_quiet (first | (fail))
                go_wp2_with fail
                go_meet
                exact ⟨by rw [hI]; simp [h3], H1.out.draws _⟩
              · go_quiet (first | (fail))
                go_wp2_with fail
                go_meet
                exact ⟨by rw [hI]; simp [h3], H1.out.draws _⟩
          case rest =>
          obtain ⟨rfl, H2⟩ := hcut
          clear H1 ct cf cW
          have ct := fun o => fb_cell H2.out.box o
          have cf := fun o => fb_cell H2.out.ow.fb.box o
          cases hI : ringsIn rl rs' with
          | false =>
            have hE : Hid (txnsFitB es rl now ts = false) := fits_no HJ.out (tfit_no3 hI)
            clear hto hop hI
            go_wp2
            go_ret
            exact ⟨ret_bool hE.out.symm, H2.out.ow.fb.bel⟩
          | true =>
            have HI : Hid (ringsIn rl rs' = true) := hI
            clear hI
            by_cases hs : s = 1
            · have hsn : (s != 1) = false := by simp [hs]
              have cO := ow_cell H2.out.ow P hP4
              obtain ⟨b3, off3, V3, he3, hV3, cE⟩ := nums_at H2.out.eps (Below.refl _ _) (k := P) hP4
              have hV' : V3 = V := (epoch_at (by omega) hV3).symm.trans hEV.out
              simp only [Option.some.injEq, Addr.mk.injEq] at he3
              obtain ⟨rfl, rfl, _⟩ := he3
              subst hV'
              clear hV3
              have hP5 : (P : Int) + 1 < 5 := by omega
              cases hO : openAt ts j ((P : Int) + 1) with
              | true =>
                have hE : Hid (txnsFitB es rl now ts = false) := by obtain ⟨i, t, hi, ht, h1, h2⟩ := open_some hO; exact fits_two ht HJ.out hi h1 hs h2
                rw [hO] at cO
                clear hto hop hO
                go_upto_region 11 with fail
                go_quiet (first | (fail))
                go_wp2
                go_ret
                exact ⟨ret_bool hE.out.symm, (H2.out.draws _).ow.fb.bel⟩
              | false =>
                rw [hO] at cO
                by_cases hev : e = V3
                · have hev' : (e != V3) = false := by simp [hev]
                  by_cases hu : now < u
                  · have hT : Hid (txnTo es rl now ts (j + 1)) := txnTo_succ hto.out HJ.out (tfit_yes hEV.out hR1.out (Int.le_of_eq hev) HI.out (fun _ => ⟨hev, hu⟩))
                    have hP' : Hid (openTo ts (j + 1)) := openTo_succ hop.out HJ.out (fun _ => hO)
                    have hu' : ¬ (u ≤ now) := by omega
                    have hfz := H2.out.ow.own.frozenAt (P + 1)
                    have HS : Hid (∀ n, OW w ((wc.drewN n).setCell ⟨w.heap.size + 1, P + 1, none⟩ (.bool true)) (fabO ra rl rc (some ⟨b2, off2, none⟩) 4 ec (some ⟨b, off, none⟩) tl tc now) ts (j + 1)) := fun n => (H2.out.draws n).ow.set HJ.out hs rfl hP4
                    clear hto hop hO
                    go_upto_region 11 with fail
                    go_quiet (first | (fail))
                    go_wp2
                    exact ⟨⟨j + 1, by omega, by go_num, hT.out, hP'.out, HS.out _⟩, by simp [intOf]; omega⟩
                  · have hE : Hid (txnsFitB es rl now ts = false) := fits_no HJ.out (tfit_no5 hs hu)
                    have hu' : u ≤ now := by omega
                    clear hto hop hO
                    go_upto_region 11 with fail
                    go_quiet (first | (fail))
                    go_wp2
                    go_ret
                    exact ⟨ret_bool hE.out.symm, (H2.out.draws _).ow.fb.bel⟩
                · have hev' : (e != V3) = true := by simp [hev]
                  have hE : Hid (txnsFitB es rl now ts = false) := fits_no HJ.out (tfit_no4 hEV.out hs hev)
                  clear hto hop hO
                  go_upto_region 11 with fail
                  go_quiet (first | (fail))
                  go_wp2
                  go_ret
                  exact ⟨ret_bool hE.out.symm, (H2.out.draws _).ow.fb.bel⟩
            · have hsn : (s != 1) = true := by simp [hs]
              have hT : Hid (txnTo es rl now ts (j + 1)) := txnTo_succ hto.out HJ.out (tfit_yes hEV.out hR1.out (by omega) HI.out (fun h => absurd h hs))
              have hP' : Hid (openTo ts (j + 1)) := openTo_succ hop.out HJ.out (fun h => absurd h hs)
              have HS : Hid (OW w wc (fabO ra rl rc (some ⟨b2, off2, none⟩) 4 ec (some ⟨b, off, none⟩) tl tc now) ts (j + 1)) := H2.out.ow.skip HJ.out hs
              clear hto hop
              go_wp2
              exact ⟨⟨j + 1, by omega, by go_num, hT.out, hP'.out, HS.out⟩, by simp [intOf]; omega⟩
    · have hE : Hid (txnsFitB es rl now ts = true) := fits_yes (by rw [HL.out]; omega) hto.out hop.out
      clear hto hop
      go_wp2
      go_ret
      exact ⟨ret_bool hE.out.symm, hw.out.fb.bel⟩
end Go.Proofs.YtdepaeajfldfbaaGreatDoor
/- The specification's fabrics: FabricRight, OpenOf, Owed. -/
namespace Go.Proofs.YtdepaeajfldfbaaGreatDoor
open Go.RowKit
attribute [local go_sem ↓] Go.wp_at_zero Go.wp_at_succ

theorem fab_no1 {rs : List RD} {es : List Int} {ts : List TD} {now : Int} (h : ¬ (1 ≤ rs.length ∧ rs.length ≤ 4 ∧ es.length = 4 ∧ ts.length ≤ 12)) : fabRightB rs es ts now = false := by
  simp only [fabRightB, fabSizesB, decide_eq_false h, Bool.false_and]
theorem fab_no2 {rs : List RD} {es : List Int} {ts : List TD} {now : Int} (h : timeB now = false) : fabRightB rs es ts now = false := by
  simp only [fabRightB, h, Bool.and_false, Bool.false_and]
theorem fab_no3 {rs : List RD} {es : List Int} {ts : List TD} {now : Int} (h : es.all timeB = false) : fabRightB rs es ts now = false := by
  simp only [fabRightB, h, Bool.and_false, Bool.false_and]
theorem fab_no4 {rs : List RD} {es : List Int} {ts : List TD} {now : Int} (h : txnsFitB es rs.length now ts = false) : fabRightB rs es ts now = false := by
  simp only [fabRightB, h, Bool.and_false, Bool.false_and]
theorem fab_no5 {rs : List RD} {es : List Int} {ts : List TD} {now : Int} (h : ringsFitB ts rs = false) : fabRightB rs es ts now = false := by
  simp only [fabRightB, h, Bool.and_false]
theorem fab_yes {rs : List RD} {es : List Int} {ts : List TD} {now : Int} (h1 : 1 ≤ rs.length ∧ rs.length ≤ 4 ∧ es.length = 4 ∧ ts.length ≤ 12) (h2 : timeB now = true) (h3 : es.all timeB = true) (h4 : txnsFitB es rs.length now ts = true) (h5 : ringsFitB ts rs = true) : fabRightB rs es ts now = true := by
  simp only [fabRightB, fabSizesB, decide_eq_true h1, h2, h3, h4, h5, Bool.and_true]
theorem time_no {es : List Int} {k : Nat} (hk : k < es.length) (h : timeB es[k] = false) : es.all timeB = false := by
  rw [List.all_eq_false]
  exact ⟨es[k], List.getElem_mem hk, by simp [h]⟩
theorem time_yes {es : List Int} {k : Nat} (hk : es.length ≤ k) (h : timeTo es k) : es.all timeB = true := by
  rw [List.all_eq_true]
  intro x hx
  obtain ⟨j, hj, rfl⟩ := List.getElem_of_mem hx
  exact h j (by omega) hj
theorem timeTo_succ {es : List Int} {k : Nat} (hr : timeTo es k) (hk : k < es.length) (h : timeB es[k] = true) : timeTo es (k + 1) := fun i hi h1 => by
  by_cases hik : i = k
  · subst hik; exact h
  · exact hr i (by omega) h1
/-- What stands while a fabric is looked at. -/
structure FX (w v : World) (o : Obj) (ra : Option Addr) (rl : Nat) (ea : Option Addr) (el : Nat) (ta : Option Addr) (tl : Nat) (rs : List RD) (es : List Int) (ts : List TD) : Prop where
  fb : FB w v o
  fin : FIn v ra rl ea el ta tl rs es ts
theorem FX.under {w u v : World} {o : Obj} {ra : Option Addr} {rl : Nat} {ea : Option Addr} {el : Nat} {ta : Option Addr} {tl : Nat} {rs : List RD} {es : List Int} {ts : List TD} (h : FX w u o ra rl ea el ta tl rs es ts) (hb : Below u.heap.size u v) : FX w v o ra rl ea el ta tl rs es ts := ⟨h.fb.under hb, h.fin.below hb⟩
set_option maxRecDepth 100000 in
set_option maxHeartbeats 8000000 in
theorem spec_fabricRight (ra : Option Addr) (rl rc : Nat) (ea : Option Addr) (el ec : Nat) (ta : Option Addr) (tl tc : Nat) (now : Int) (rs : List RD) (es : List Int) (ts : List TD) (w : World) (hi : FIn w ra rl ea el ta tl rs es ts) :
    Calls Tryz.prog 10 #[fabVal ra rl rc ea el ec ta tl tc now] w fun e w' => e = .returned (.bool (fabRightB rs es ts now)) ∧ Below w.heap.size w w' := by
  have HR : Hid (rs.length = rl) := hi.rs.1
  have HE : Hid (es.length = el) := hi.es.1
  have HT : Hid (ts.length = tl) := hi.ts.1
  have hrl := hi.rle
  have hel := hi.ele
  have htl := hi.tle
  have H0 : Hid (FX w (w.alloc (fabO ra rl rc ea el ec ta tl tc now)) (fabO ra rl rc ea el ec ta tl tc now) ra rl ea el ta tl rs es ts) := ⟨fb_new _ _ _, hi.below (fbelow_new _ _)⟩
  clear hi
  by_cases h1 : 1 ≤ rl
  case neg =>
    have hE : Hid (fabRightB rs es ts now = false) := fab_no1 (by have := HR.out; omega)
    have h1' : (rl : Int) < 1 := by omega
    go_enter Tryz.func10, Tryz.ntmps10
    go_wp2
    go_ret
    exact ⟨ret_bool hE.out.symm, H0.out.fb.bel⟩
  by_cases h2 : rl ≤ 4
  case neg =>
    have hE : Hid (fabRightB rs es ts now = false) := fab_no1 (by have := HR.out; omega)
    have h1' : decide ((rl : Int) < 1) = false := decide_eq_false (by omega)
    have h2' : decide ((4 : Int) < (rl : Int)) = true := decide_eq_true (by omega)
    go_enter Tryz.func10, Tryz.ntmps10
    go_wp2
    go_ret
    exact ⟨ret_bool hE.out.symm, H0.out.fb.bel⟩
  have h1' : decide ((rl : Int) < 1) = false := decide_eq_false (by omega)
  have h2' : decide ((4 : Int) < (rl : Int)) = false := decide_eq_false (by omega)
  by_cases h3 : el = 4
  case neg =>
    have hE : Hid (fabRightB rs es ts now = false) := fab_no1 (by have := HE.out; omega)
    have h3' : ((el : Int) != 4) = true := by simp; omega
    go_enter Tryz.func10, Tryz.ntmps10
    go_wp2
    go_ret
    exact ⟨ret_bool hE.out.symm, H0.out.fb.bel⟩
  subst h3
  by_cases h4 : tl ≤ 12
  case neg =>
    have hE : Hid (fabRightB rs es ts now = false) := fab_no1 (by have := HT.out; omega)
    have h4' : decide ((12 : Int) < (tl : Int)) = true := decide_eq_true (by omega)
    go_enter Tryz.func10, Tryz.ntmps10
    go_wp2
    go_ret
    exact ⟨ret_bool hE.out.symm, H0.out.fb.bel⟩
  have h4' : decide ((12 : Int) < (tl : Int)) = false := decide_eq_false (by omega)
  have HZ : Hid (1 ≤ rs.length ∧ rs.length ≤ 4 ∧ es.length = 4 ∧ ts.length ≤ 12) := by have a := HR.out; have b := HE.out; have c := HT.out; exact ⟨by omega, by omega, b, by omega⟩
  go_enter Tryz.func10, Tryz.ntmps10
  go_wp2_with fail
  refine (spec_time now _).mono ?_
  rintro e w1 ⟨rfl, hw1⟩
  rw [hw1]
  clear hw1 w1
  by_cases h5 : 0 ≤ now ∧ now ≤ 1000000
  case neg =>
    rw [decide_eq_false h5]
    have hE : Hid (fabRightB rs es ts now = false) := fab_no2 (decide_eq_false h5)
    clear h5
    go_wp2
    go_ret
    exact ⟨ret_bool hE.out.symm, H0.out.fb.bel⟩
  rw [decide_eq_true h5]
  have HN : Hid (timeB now = true) := decide_eq_true h5
  clear h5
  go_wp2_with fail
  go_loopw [3] (fun i wr => ∃ k : Nat, k ≤ 4 ∧ i = .int .i64 k ∧ Hid (timeTo es k) ∧ Hid (FX w wr (fabO ra rl rc ea 4 ec ta tl tc now) ra rl ea 4 ta tl rs es ts)) (fun i _ => 4 - (intOf i).toNat)
  case atStart => exact ⟨0, by omega, rfl, fun j hj => by omega, H0.out⟩
  case round =>
    obtain ⟨k, hk, rfl, hto, hw⟩ := hrel
    clear H0
    have cf := fun o => fb_cell hw.out.fb.box o
    by_cases hlt : k < 4
    · obtain ⟨b, off, hea, hkl, g0⟩ := nums_get hw.out.fin.es (Below.refl _ _) (k := k) hlt
      have hN : timeB es[k] = false → Hid (fabRightB rs es ts now = false) := fun h => fab_no3 (time_no hkl h)
      have hY : timeB es[k] = true → Hid (timeTo es (k + 1)) := fun h => timeTo_succ hto.out hkl h
      obtain ⟨V, hV⟩ : ∃ V, es[k] = V := ⟨_, rfl⟩
      rw [hV] at g0 hN hY
      clear hV hkl hto
      subst hea
      go_wp2_with fail
      refine (spec_time V _).mono ?_
      rintro e w1 ⟨rfl, hw1⟩
      rw [hw1]
      clear hw1 w1
      by_cases h5 : 0 ≤ V ∧ V ≤ 1000000
      · rw [decide_eq_true h5]
        have hE := hY (decide_eq_true h5)
        clear h5 hY hN g0
        go_wp2
        exact ⟨⟨k + 1, by omega, by go_num, hE.out, hw.out⟩, by simp [intOf]; omega⟩
      · rw [decide_eq_false h5]
        have hE := hN (decide_eq_false h5)
        clear h5 hY hN g0
        go_wp2
        go_ret
        exact ⟨ret_bool hE.out.symm, hw.out.fb.bel⟩
    · have HTI : Hid (es.all timeB = true) := time_yes (by rw [HE.out]; omega) hto.out
      clear hto
      go_wp2_with fail
      refine (spec_ltxns ra rl rc ea ec ta tl tc now es ts _ hw.out.fin.ts hw.out.fin.es htl hrl).mono ?_
      rintro e v ⟨rfl, hbv⟩
      have H1 : Hid (FX w v (fabO ra rl rc ea 4 ec ta tl tc now) ra rl ea 4 ta tl rs es ts) := hw.out.under hbv
      clear hbv hw cf
      cases hF : txnsFitB es rl now ts with
      | false =>
        have hE : Hid (fabRightB rs es ts now = false) := fab_no4 (by rw [HR.out]; exact hF)
        go_wp2
        go_ret
        exact ⟨ret_bool hE.out.symm, H1.out.fb.bel⟩
      | true =>
        have HF : Hid (txnsFitB es rs.length now ts = true) := by rw [HR.out]; exact hF
        clear hF
        have cf := fun o => fb_cell H1.out.fb.box o
        go_wp2_with fail
        clear cf
        go_loopw [4] (fun i wr => ∃ k : Nat, k ≤ rl ∧ i = .int .i64 k ∧ Hid (ringTo ts rs k) ∧ Hid (FX w wr (fabO ra rl rc ea 4 ec ta tl tc now) ra rl ea 4 ta tl rs es ts)) (fun i _ => rl - (intOf i).toNat)
        case atStart => exact ⟨0, by omega, rfl, fun j hj => by omega, H1.out⟩
        case round =>
          obtain ⟨n, hn, rfl, hro, hw⟩ := hrel
          clear H1
          have cf := fun o => fb_cell hw.out.fb.box o
          by_cases hlr : n < rl
          · have hnl : n < rs.length := by rw [HR.out]; exact hlr
            have HN2 : Hid (ringFitB ts (n : Int) rs[n] = false → fabRightB rs es ts now = false) := fun h => fab_no5 (ringTo_no (List.getElem?_eq_getElem hnl) h)
            have HY2 : Hid (ringFitB ts (n : Int) rs[n] = true → ringTo ts rs (n + 1)) := fun h => ringTo_succ hro.out (List.getElem?_eq_getElem hnl) h
            have HC : Hid _ := fun w (h1 : Rngs w ra rl rs) (h2 : Txs w ta tl ts) => spec_lring ra rl rc ea 4 ec ta tl tc now rs ts n rs[n] w h1 h2 (List.getElem?_eq_getElem hnl) hrl htl
            obtain ⟨B, hB⟩ : ∃ B, ringFitB ts (n : Int) rs[n] = B := ⟨_, rfl⟩
            rw [hB] at HN2 HY2 HC
            clear hB hro hnl
            go_wp2_with fail
            refine (HC.out _ hw.out.fin.rs hw.out.fin.ts).mono ?_
            rintro e v ⟨rfl, hbv⟩
            have H2 : Hid (FX w v (fabO ra rl rc ea 4 ec ta tl tc now) ra rl ea 4 ta tl rs es ts) := hw.out.under hbv
            clear hbv hw cf
            cases B with
            | true =>
              have HY3 : Hid _ := HY2.out rfl
              go_wp2
              exact ⟨⟨n + 1, by omega, by go_num, HY3.out, H2.out⟩, by simp [intOf]; omega⟩
            | false =>
              have HN3 : Hid _ := HN2.out rfl
              go_wp2
              go_ret
              exact ⟨ret_bool HN3.out.symm, H2.out.fb.bel⟩
          · have hE : Hid (fabRightB rs es ts now = true) := fab_yes HZ.out HN.out HTI.out HF.out (ringTo_yes (by rw [HR.out]; omega) hro.out)
            clear hro
            go_wp2
            go_ret
            exact ⟨ret_bool hE.out.symm, hw.out.fb.bel⟩
end Go.Proofs.YtdepaeajfldfbaaGreatDoor
/- The specification's fabrics: OpenOf, Owed. -/
namespace Go.Proofs.YtdepaeajfldfbaaGreatDoor
open Go.RowKit
attribute [local go_sem ↓] Go.wp_at_zero Go.wp_at_succ

theorem openOf_at {ts : List TD} {p : Int} {k : Nat} {t : TD} (hk : ts[k]? = some t) (h : ∀ j, j < k → ∀ u, ts[j]? = some u → ¬ (u.p = p ∧ u.s = 1)) (hp : t.p = p) (hs : t.s = 1) : openOf ts p = k + 1 := by
  have e : ts.findIdx? (fun t => t.p == p && t.s == 1) = some k := by
    rw [List.findIdx?_eq_some_iff_getElem]
    obtain ⟨hl, e⟩ := List.getElem?_eq_some_iff.1 hk
    refine ⟨hl, by rw [e]; simp [hp, hs], fun j hj => ?_⟩
    have := h j hj _ (List.getElem?_eq_getElem (by omega))
    simp
    intro h1 h2
    exact this ⟨h1, h2⟩
  unfold openOf
  rw [e]
theorem openOf_none {ts : List TD} {p : Int} {k : Nat} (hk : ts.length ≤ k) (h : ∀ j, j < k → ∀ u, ts[j]? = some u → ¬ (u.p = p ∧ u.s = 1)) : openOf ts p = 0 := by
  have e : ts.findIdx? (fun t => t.p == p && t.s == 1) = none := by
    rw [List.findIdx?_eq_none_iff]
    intro t ht
    obtain ⟨j, hj, rfl⟩ := List.getElem_of_mem ht
    have := h j (by omega) _ (List.getElem?_eq_getElem hj)
    simp
    intro h1 h2
    exact this ⟨h1, h2⟩
  unfold openOf
  rw [e]
set_option maxRecDepth 100000 in
set_option maxHeartbeats 4000000 in
theorem spec_lopen (ra : Option Addr) (rl rc : Nat) (ea : Option Addr) (el ec : Nat) (ta : Option Addr) (tl tc : Nat) (now : Int) (p : Int) (ts : List TD) (w : World) (hT : Txs w ta tl ts) (htl : tl ≤ 1048576) :
    Calls Tryz.prog 41 #[fabVal ra rl rc ea el ec ta tl tc now, .int .i64 p] w fun e w' => e = .returned (.int .i64 (openOf ts p : Nat)) ∧ Below w.heap.size w w' := by
  have HT : Hid (Txs w ta tl ts) := hT
  have HL : Hid (ts.length = tl) := hT.1
  clear hT
  have HF : Hid (FB w (w.alloc (fabO ra rl rc ea el ec ta tl tc now)) (fabO ra rl rc ea el ec ta tl tc now)) := fb_new _ _ _
  go_enter Tryz.func41, Tryz.ntmps41
  go_wp2
  go_loopw [5] (fun i wr => ∃ j : Nat, j ≤ tl ∧ i = .int .i64 j ∧ Hid (∀ i, i < j → ∀ u, ts[i]? = some u → ¬ (u.p = p ∧ u.s = 1)) ∧ Hid (FB w wr (fabO ra rl rc ea el ec ta tl tc now))) (fun i _ => tl - (intOf i).toNat)
  case atStart => exact ⟨0, by omega, rfl, (fun i hi => by omega), HF.out⟩
  case round =>
    obtain ⟨j, hj, rfl, hn, hw⟩ := hrel
    clear HF
    have hB := fun o => fb_cell hw.out.box o
    by_cases hlt : j < tl
    · obtain ⟨b, off, t, hta, e1, g0, g1, g2, g3, g4, g5, hf⟩ := txsG_at keeps_tfit HT.out hw.out.bel hlt
      subst hta
      have HJ : Hid (ts[j]? = some t) := e1
      clear e1 hf
      have HS : Hid (¬ (t.p = p ∧ t.s = 1) → ∀ i, i < j + 1 → ∀ u, ts[i]? = some u → ¬ (u.p = p ∧ u.s = 1)) := fun h i hi u hu => by
        by_cases e : i = j
        · subst e
          have := HJ.out.symm.trans hu
          cases this
          exact h
        · exact hn.out i (by omega) u hu
      by_cases h1 : t.p = p
      · have h1' : (t.p == p) = true := by rw [beq_iff_eq]; exact h1
        by_cases h2 : t.s = 1
        · have h2' : (t.s == 1) = true := by rw [beq_iff_eq]; exact h2
          have hE : Hid (openOf ts p = j + 1) := openOf_at HJ.out hn.out h1 h2
          clear h1 h2 HS hn
          go_wp2
          go_ret
          exact ⟨ret_int (by rw [hE.out]; simp), hw.out.bel⟩
        · have h2' : (t.s == 1) = false := by rw [beq_eq_false_iff_ne]; exact h2
          have hE : Hid _ := HS.out (fun h => h2 h.2)
          clear h1 h2 HS hn
          go_wp2
          exact ⟨⟨j + 1, by omega, by go_num, hE.out, hw.out⟩, by simp [intOf]; omega⟩
      · have h1' : (t.p == p) = false := by rw [beq_eq_false_iff_ne]; exact h1
        have hE : Hid _ := HS.out (fun h => h1 h.1)
        clear h1 HS hn
        go_wp2
        exact ⟨⟨j + 1, by omega, by go_num, hE.out, hw.out⟩, by simp [intOf]; omega⟩
    · have hE : Hid (openOf ts p = 0) := openOf_none (by rw [HL.out]; omega) hn.out
      clear hn
      go_wp2
      go_ret
      exact ⟨ret_int (by rw [hE.out]; rfl), hw.out.bel⟩
set_option maxHeartbeats 2000000 in
theorem spec_openOf (ra : Option Addr) (rl rc : Nat) (ea : Option Addr) (el ec : Nat) (ta : Option Addr) (tl tc : Nat) (now : Int) (p : Int) (rs : List RD) (es : List Int) (ts : List TD) (w : World) (hi : FIn w ra rl ea el ta tl rs es ts) :
    Calls Tryz.prog 14 #[fabVal ra rl rc ea el ec ta tl tc now, .int .i64 p] w fun e w' => e = .returned (.int .i64 (if fabRightB rs es ts now then (openOf ts p : Int) else 0)) ∧ Below w.heap.size w w' := by
  have H0 : Hid (FX w (w.alloc (fabO ra rl rc ea el ec ta tl tc now)) (fabO ra rl rc ea el ec ta tl tc now) ra rl ea el ta tl rs es ts) := ⟨fb_new _ _ _, hi.below (fbelow_new _ _)⟩
  have htl := hi.tle
  clear hi
  obtain ⟨Z, hZ⟩ : ∃ Z : Int, (if fabRightB rs es ts now then (openOf ts p : Int) else 0) = Z := ⟨_, rfl⟩
  rw [hZ]
  have HZ : Hid ((if fabRightB rs es ts now then (openOf ts p : Int) else 0) = Z) := hZ
  clear hZ
  go_enter Tryz.func14, Tryz.ntmps14
  go_wp2_with fail
  refine (spec_fabricRight ra rl rc ea el ec ta tl tc now rs es ts _ H0.out.fin).mono ?_
  rintro e v ⟨rfl, hbv⟩
  have H1 : Hid (FX w v (fabO ra rl rc ea el ec ta tl tc now) ra rl ea el ta tl rs es ts) := H0.out.under hbv
  clear hbv H0
  have cf := fun o => fb_cell H1.out.fb.box o
  obtain ⟨F, hF⟩ : ∃ F, fabRightB rs es ts now = F := ⟨_, rfl⟩
  rw [hF] at HZ ⊢
  clear hF
  cases F with
  | false =>
    have hE : Hid (0 = Z) := HZ.out
    clear HZ
    go_wp2
    go_ret
    exact ⟨ret_int hE.out, H1.out.fb.bel⟩
  | true =>
    have hE : Hid ((openOf ts p : Int) = Z) := HZ.out
    clear HZ
    go_wp2_with fail
    refine (spec_lopen ra rl rc ea el ec ta tl tc now p ts _ H1.out.fin.ts htl).mono ?_
    rintro e v2 ⟨rfl, hb2⟩
    have HB2 : Hid (Below w.heap.size w v2) := below_tr H1.out.fb.bel hb2
    clear hb2 cf
    rw [hE.out]
    go_wp2
    go_ret
    exact ⟨ret_int rfl, HB2.out⟩
theorem spec_there (ra : Option Addr) (rl rc : Nat) (ea : Option Addr) (el ec : Nat) (ta : Option Addr) (tl tc : Nat) (now : Int) (n : Int) (w : World) (hrl : rl ≤ 1048576) :
    Calls Tryz.prog 44 #[fabVal ra rl rc ea el ec ta tl tc now, .int .i64 n] w fun e w' => e = .returned (.bool (decide (0 ≤ n ∧ n ≤ (rl : Int) - 1))) ∧ Below w.heap.size w w' := by
  have hw : IntKind.i64.wrap ((rl : Int) - 1) = (rl : Int) - 1 := twrap_in _ (by omega) (by omega)
  go_enter Tryz.func44, Tryz.ntmps44
  go_wp2_with fail
  refine (tspec_is n 0 ((rl : Int) - 1) _).mono ?_
  rintro e w1 ⟨rfl, hw1⟩
  rw [hw1]
  clear hw1 w1
  obtain ⟨T, hT⟩ : ∃ T, decide (0 ≤ n ∧ n ≤ (rl : Int) - 1) = T := ⟨_, rfl⟩
  have HT : Hid (decide (0 ≤ n ∧ n ≤ (rl : Int) - 1) = T) := hT
  rw [hT]
  clear hT
  go_wp2
  go_ret
  exact ⟨ret_bool (by first | rfl | exact HT.out.symm | (rw [← HT.out]; simp)), fbelow_new _ _⟩
set_option maxHeartbeats 2000000 in
theorem spec_owed (ra : Option Addr) (rl rc : Nat) (ea : Option Addr) (el ec : Nat) (ta : Option Addr) (tl tc : Nat) (now : Int) (n : Int) (rs : List RD) (es : List Int) (ts : List TD) (w : World) (hi : FIn w ra rl ea el ta tl rs es ts) :
    Calls Tryz.prog 16 #[fabVal ra rl rc ea el ec ta tl tc now, .int .i64 n] w fun e w' => e = .returned (.int .i64 (if fabRightB rs es ts now && decide (0 ≤ n ∧ n ≤ (rl : Int) - 1) then (owedN ts n : Int) else 0)) ∧ Below w.heap.size w w' := by
  have H0 : Hid (FX w (w.alloc (fabO ra rl rc ea el ec ta tl tc now)) (fabO ra rl rc ea el ec ta tl tc now) ra rl ea el ta tl rs es ts) := ⟨fb_new _ _ _, hi.below (fbelow_new _ _)⟩
  have htl := hi.tle
  have hrl := hi.rle
  clear hi
  obtain ⟨Z, hZ⟩ : ∃ Z : Int, (if fabRightB rs es ts now && decide (0 ≤ n ∧ n ≤ (rl : Int) - 1) then (owedN ts n : Int) else 0) = Z := ⟨_, rfl⟩
  rw [hZ]
  have HZ : Hid ((if fabRightB rs es ts now && decide (0 ≤ n ∧ n ≤ (rl : Int) - 1) then (owedN ts n : Int) else 0) = Z) := hZ
  clear hZ
  go_enter Tryz.func16, Tryz.ntmps16
  go_wp2_with fail
  refine (spec_fabricRight ra rl rc ea el ec ta tl tc now rs es ts _ H0.out.fin).mono ?_
  rintro e v ⟨rfl, hbv⟩
  have H1 : Hid (FX w v (fabO ra rl rc ea el ec ta tl tc now) ra rl ea el ta tl rs es ts) := H0.out.under hbv
  clear hbv H0
  have cf := fun o => fb_cell H1.out.fb.box o
  obtain ⟨F, hF⟩ : ∃ F, fabRightB rs es ts now = F := ⟨_, rfl⟩
  rw [hF] at HZ ⊢
  clear hF
  cases F with
  | false =>
    have hE : Hid (0 = Z) := HZ.out
    clear HZ
    go_wp2
    go_ret
    exact ⟨ret_int hE.out, H1.out.fb.bel⟩
  | true =>
    have HT : Hid _ := fun w => spec_there ra rl rc ea el ec ta tl tc now n w hrl
    obtain ⟨T, hT⟩ : ∃ T, decide (0 ≤ n ∧ n ≤ (rl : Int) - 1) = T := ⟨_, rfl⟩
    rw [hT] at HZ HT
    clear hT
    go_wp2_with fail
    refine (HT.out _).mono ?_
    rintro e v2 ⟨rfl, hb2⟩
    have H2 : Hid (FX w v2 (fabO ra rl rc ea el ec ta tl tc now) ra rl ea el ta tl rs es ts) := H1.out.under hb2
    clear hb2 cf H1 HT
    have cf := fun o => fb_cell H2.out.fb.box o
    cases T with
    | false =>
      have hE : Hid (0 = Z) := HZ.out
      clear HZ
      go_wp2
      go_ret
      exact ⟨ret_int hE.out, H2.out.fb.bel⟩
    | true =>
      have hE : Hid ((owedN ts n : Int) = Z) := HZ.out
      clear HZ
      go_wp2_with fail
      refine (spec_lowed ra rl rc ea el ec ta tl tc now n ts _ H2.out.fin.ts htl).mono ?_
      rintro e v3 ⟨rfl, hb3⟩
      have HB3 : Hid (Below w.heap.size w v3) := below_tr H2.out.fb.bel hb3
      clear hb3 cf
      rw [hE.out]
      go_wp2
      go_ret
      exact ⟨ret_int rfl, HB3.out⟩
end Go.Proofs.YtdepaeajfldfbaaGreatDoor
