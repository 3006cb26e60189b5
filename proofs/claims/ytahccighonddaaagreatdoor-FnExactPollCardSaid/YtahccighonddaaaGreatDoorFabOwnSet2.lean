import Derived.Test.YtahccighonddaaaGreatDoorNrm
import Derived.Test.YtahccighonddaaaGreatDoorFabEnd
import Derived.Deep.RegionHeld3
import Derived.Test.YtahccighonddaaaGreatDoorFabD
import Derived.Test.YtahccighonddaaaGreatDoorSpecHear2
import Derived.Deep.RegionLaw
import Derived.Deep.DrawnRows
import Derived.Test.YtahccighonddaaaGreatDoorSpecMove
import Derived.Test.YtahccighonddaaaGreatDoorTxnWithout
import Derived.Test.YtahccighonddaaaGreatDoorRingPut
namespace Go.Proofs.YtahccighonddaaaGreatDoor
open Go.RowKit Go.Maps
attribute [local go_sem ↓] Go.wp_at_zero Go.wp_at_succ
set_option linter.unusedSimpArgs false
set_option linter.unusedVariables false
theorem impl_loadPuts (p : Addr) (x : Int) (w : World) (hp : p = ⟨p.block,p.off,none⟩) (hc : w.cell? p = some (.int .i64 x)) :
    Calls Tryz.prog 139 #[.pointer (some p)] w fun e w' => e = .returned (.int .i64 x) ∧ w' = w := by
  obtain ⟨b,o,s⟩ := p
  simp only [Addr.mk.injEq,true_and] at hp
  subst hp
  have hl := run_call_load (P := Tryz.prog) Tryz.func197 (by kernel_rfl) (by kernel_rfl) (by kernel_rfl) .i64 (by kernel_rfl) hc
  go_enter Tryz.func139,Tryz.ntmps139
  go_wp2
  go_ret
  exact ⟨rfl,rfl⟩
def FabSame (rs rs' : List RD) (ts ts' : List TD) : Prop := rs'.map RD.strip = rs.map RD.strip ∧ ts'.map TD.strip = ts.map TD.strip
set_option maxRecDepth 100000 in
set_option maxHeartbeats 4000000 in
theorem impl_fabric {lo B M : Nat} {ta : Option Addr} {tl tc : Nat} {ra : Option Addr} {rl rc : Nat} {ea : Option Addr} {el ec : Nat} {now began puts : Int} {ts : List TD} {rs : List RD} {es : List Int} {m : Nat} {D : DataW Unit} (w : World)
    (hk : WK lo w B M ta tl tc ra rl rc ea el ec now began puts ts rs es m D) (hsum : endSum rs = began + puts) (hb64 : -9000000000 ≤ began ∧ began ≤ 9000000000) (hp64 : -9000000000 ≤ puts ∧ puts ≤ 9000000000) (hrl : rl ≤ 4) (htl : tl ≤ 12) (hel : el ≤ 4) (hF : ∀ r ∈ rs,0 ≤ r.first ∧ r.first ≤ 1000000) :
    Calls Tryz.prog 89 #[.pointer (some ⟨B,0,none⟩)] w fun x w' => ∃ ra' rc' ea' ec' ta' tc' rs' ts',x = .returned (fabVal ra' rl rc' ea' el ec' ta' tl tc' now) ∧ OwnFab w' w.heap.size ra' rl rc' ea' el ec' ta' tl tc' rs' es ts' ∧ FabSame rs rs' ts ts' ∧ Below w.heap.size w w' := by
  obtain ⟨i0,hi0,hz0,hz1,hz2⟩ := info_parts info_ringF
  obtain ⟨t0,ht0,hu0,hu1,hu2⟩ := info_parts info_txnF
  obtain ⟨j0,hj0,hy0,hy1,hy2⟩ := info_parts info_i64
  have HK : Hid (WK lo w B M ta tl tc ra rl rc ea el ec now began puts ts rs es m D) := hk
  have HLR : Hid (rs.length = rl) := hk.rngs.1
  have HLT : Hid (ts.length = tl) := hk.txs.1
  have HLE : Hid (es.length = el) := hk.nums.1
  have HENIL : Hid (ea = none → el = 0 ∧ ec = 0) := fun e => by
    rcases hk.e.2 with ⟨e1,e2⟩ | ⟨g,cap,cur,e1,_⟩
    · simp only [Value.slice.injEq] at e1; exact ⟨e2,e1.2.2⟩
    · simp only [Value.slice.injEq] at e1; rw [e] at e1; cases e1.1
  have HSUM : Hid (endSum rs = began + puts) := hsum
  have HSE : Hid _ := fun u (h : WK lo u B M ta tl tc ra rl rc ea el ec now began puts ts rs es m D) => impl_sumOfEnds rs u h.b h.rngs hrl hF
  have HBY : Hid (FB w (w.alloc (fabO none 0 0 none 0 0 none 0 0 0)) (fabO none 0 0 none 0 0 none 0 0 0)) := fb_new _ _ _
  have hws : IntKind.i64.wrap (began + puts) = began + puts := twrap_in _ (by omega) (by omega)
  have hnq : (began + puts != began + puts) = false := by simp
  clear hk hsum hF
  go_enter Tryz.func89,Tryz.ntmps89
  go_upto_region 1 with fail
  have H1 : Hid (FB w (w.alloc (fabO none 0 0 none 0 0 none 0 0 0)).drew (fabO none 0 0 none 0 0 none 0 0 0)) := HBY.out.under ((Below.refl _ _).drew)
  clear HBY
  rw [HSUM.out] at HSE
  refine wp_region_held_drew (S := (fun x => ∀ o,x.cell? ⟨B,o,none⟩ = (#[.slice ta tl tc,.map (some M),.slice ra rl rc,.slice ea el ec,.int .i64 now,.int .i64 began,.int .i64 puts] : Array Value)[o]?)) (by kernel_rfl) (fun o => fb_cell (HK.out.under H1.out.bel).b o) (fun hHeld => ?_)
  refine tk (i := 0) (v := ?_) rfl hHeld (.inl ⟨by rfl,?_⟩) ?_
  rotate_left
  · intro wy hSw; (try dsimp only at hSw); go_simp; (try with_reducible rfl)
  try simp only [Act.put,n1,n2,n3,n4,n5,n6]
  refine tk (i := 2) (v := ?_) rfl hHeld (.inl ⟨by rfl,?_⟩) ?_
  rotate_left
  · intro wy hSw; (try dsimp only at hSw); go_simp; (try with_reducible rfl)
  try simp only [Act.put,n1,n2,n3,n4,n5,n6]
  refine tk (i := 3) (v := ?_) rfl hHeld (.inl ⟨by rfl,?_⟩) ?_
  rotate_left
  · intro wy hSw; (try dsimp only at hSw); go_simp; (try with_reducible rfl)
  try simp only [Act.put,n1,n2,n3,n4,n5,n6]
  refine tk (i := 4) (v := ?_) rfl hHeld (.inl ⟨by rfl,?_⟩) ?_
  rotate_left
  · intro wy hSw; (try dsimp only at hSw); go_simp; (try with_reducible rfl)
  try simp only [Act.put,n1,n2,n3,n4,n5,n6]
  refine tk (i := 5) (v := ?_) rfl hHeld (.inl ⟨by rfl,?_⟩) ?_
  rotate_left
  · intro wy hSw; (try dsimp only at hSw); go_simp; (try with_reducible rfl)
  try simp only [Act.put,n1,n2,n3,n4,n5,n6]
  refine tk (i := 6) (v := ?_) rfl hHeld (.inl ⟨by rfl,?_⟩) ?_
  rotate_left
  · intro wy hSw; (try dsimp only at hSw); go_simp; (try with_reducible rfl)
  try simp only [Act.put,n1,n2,n3,n4,n5,n6]
  refine tk (i := 7) (v := ?_) rfl hHeld (.inl ⟨by rfl,?_⟩) ?_
  rotate_left
  · intro wy hSw; (try dsimp only at hSw); go_simp; (try with_reducible rfl)
  try simp only [Act.put,n1,n2,n3,n4,n5,n6]
  refine tk (i := 8) (v := ?_) rfl hHeld (.inl ⟨by rfl,?_⟩) ?_
  rotate_left
  · intro wy hSw; (try dsimp only at hSw); go_simp; (try with_reducible rfl)
  try simp only [Act.put,n1,n2,n3,n4,n5,n6]
  refine wpAnyH_ready (rs := [1]) (by kernel_rfl) (by simp) ?_
  refine AllReadyH.cons rfl (fun K hK => ?_) AllReadyH.nil
  go_simp
  refine (HSE.out _ (HK.out.under H1.out.bel)).mono ?_; rintro x v1 ⟨rfl,hb1⟩; have H1 : Hid (FB w v1 (fabO none 0 0 none 0 0 none 0 0 0)) := H1.out.under hb1; clear hb1
  go_wp2_with fail
  refine hK.out _ _ ?_ (fun hHeld => ?_)
  · exact fun o => fb_cell (HK.out.under H1.out.bel).b o
  clear hK K
  try simp only [Act.put,n1,n2,n3,n4,n5,n6]
  refine wpAnyH_ready (rs := [9]) (by kernel_rfl) (by simp) ?_
  refine AllReadyH.cons rfl (fun K hK => ?_) AllReadyH.nil
  go_simp
  refine (impl_loadPuts ⟨B,6,none⟩ puts _ rfl (fb_cell (HK.out.under H1.out.bel).b 6)).mono ?_; rintro x v2 ⟨rfl,hb2⟩; rw [hb2]; clear hb2 v2
  go_wp2_with fail
  refine hK.out _ _ ?_ (fun hHeld => ?_)
  · exact fun o => fb_cell (HK.out.under H1.out.bel).b o
  clear hK K
  try simp only [Act.put,n1,n2,n3,n4,n5,n6]
  refine tk (i := 10) (v := ?_) rfl hHeld (.inl ⟨by rfl,?_⟩) ?_
  rotate_left
  · intro wy hSw; (try dsimp only at hSw); go_simp; (try with_reducible rfl)
  try simp only [Act.put,n1,n2,n3,n4,n5,n6]
  refine tk (i := 11) (v := ?_) rfl hHeld (.inl ⟨by rfl,?_⟩) ?_
  rotate_left
  · intro wy hSw; (try dsimp only at hSw); go_simp; (try with_reducible rfl)
  try simp only [Act.put,n1,n2,n3,n4,n5,n6]
  refine wpAnyH_done (by kernel_rfl) ?_ _
  have cb := fun o => fb_cell (HK.out.under H1.out.bel).b o
  clear HSE hnq
  obtain ⟨V,hV⟩ : ∃ V,v1 = V := ⟨_,rfl⟩
  rw [hV] at H1 cb ⊢
  clear hV
  have HS : Hid (FO w (V.alloc (fabO none 0 0 none 0 0 none 0 0 now)) V.heap.size none 0 0 none 0 0 none 0 0 now [] [] []) := ⟨((fbelow_new _ _).block _ (fb_lt H1.out.box)).trans H1.out.box,heap_alloc_new _ _,ownFab_nil _ _,fb_lt H1.out.box,below_tr H1.out.bel (fbelow_new _ _)⟩
  obtain ⟨X,hX⟩ : ∃ X,V.heap.size = X := ⟨_,rfl⟩
  rw [hX] at HS
  have cb2 := fun o => fb_cell (HK.out.under HS.out.bel).b o
  go_wp2_with fail
  clear cb cb2 H1
  go_loopw [31] (fun i wr => ∃ (k : Nat) (a : Option Addr) (c : Nat) (rs' : List RD),k ≤ rl ∧ i = .int .i64 k ∧ Hid (rs'.map RD.strip = (rs.take k).map RD.strip) ∧ Hid (FO w wr X a k c none 0 0 none 0 0 now rs' [] [])) (fun i _ => rl - (intOf i).toNat)
  case atStart => exact ⟨0,none,0,[],by omega,rfl,show _ = _ by simp,HS.out⟩
  case round =>
    obtain ⟨k,a,c,rs',hk,rfl,hsm,hf⟩ := hrel
    clear HS
    by_cases hlt : k < rl
    · obtain ⟨b,off,r,rfl,e1,g0,g1,g2,g3,hfit⟩ := rngsG_at keeps_fit (HK.out.under hf.out.bel).rngs (Below.refl _ _) hlt
      have HZ : Hid (∀ Z ∈ rs'.flatMap RD.blks,Z < wr.heap.size) := fun Z hZ => (hf.out.own.lt (by simp only [fabBlks,List.mem_append]; exact .inl hZ)).2
      have HSM : Hid (∀ q : RD,q.strip = r.strip → (rs' ++ [q]).map RD.strip = (rs.take (k + 1)).map RD.strip) := fun q hq => by
        obtain ⟨hj,e2⟩ := List.getElem?_eq_some_iff.1 e1
        rw [List.take_succ_eq_append_getElem hj,e2,List.map_append,List.map_append,hsm.out]
        simp [hq]
      have hf2 : Hid (FO w (wr.alloc r.obj) X a k c none 0 0 none 0 0 now rs' [] []) := hf.out.under (fbelow_new _ _)
      have HFT : Hid (r.fit (wr.alloc r.obj)) := hfit.out.below (fbelow_new _ _)
      have hwz := hf.out.bel.size
      clear hf hfit e1 hsm
      obtain ⟨cap,first,ra2,rl2,rc2,ca2,cl2,cc2,recs,curs⟩ := r
      have hrl2 : rl2 ≤ 1048577 := Nat.le_succ_of_le HFT.out.rle
      have hcl2 : cl2 ≤ 1048577 := Nat.le_succ_of_le HFT.out.cle
      have c3 := fun o => fb_cell hf2.out.x o
      go_wp2
      go_region_law (first
        | (go_simp; go_at_call 112; refine (impl_copyRing cap first ra2 rl2 rc2 ca2 cl2 cc2 recs curs _ (HFT.out.str.below ((Below.refl _ _).drew)) (HFT.out.cur.below ((Below.refl _ _).drew)) HFT.out.sz hrl2 hcl2).mono ?_; rintro x w2 ⟨a2,q2,c2,p2,rfl,ho2,hb2⟩; have hf3 : Hid (FO w w2 X a k c none 0 0 none 0 0 now rs' [] []) := hf2.out.under (below_tr ((Below.refl _ _).drew) hb2); have HOR : Hid (RD.own ⟨cap,first,a2,rl2,q2,c2,cl2,p2,recs,curs⟩ w2 wr.heap.size) := RD.own.mono (r := ⟨cap,first,a2,rl2,q2,c2,cl2,p2,recs,curs⟩) ho2 (by simp); have c3 := fun o => fb_cell hf3.out.x o; have hlb := fb_lt hf3.out.x; clear hb2 ho2)
        | (refine step_append_own_any (by rfl) _ _ _ (by rfl) w.heap.size 63 i0 _ 4 64 Tryz.underlying28 hi0 hz0 hz1 hz2 (by rfl) (by omega) (.slice a k c) k _ (by rfl) (hf3.out.own.r.alloc _) (some ⟨w2.heap.size,0,none⟩) 1 1 (RD.cells ⟨cap,first,a2,rl2,q2,c2,cl2,p2,recs,curs⟩) (by rfl) (by rfl) (fun e => by cases e) (fun ad e => by cases e; exact World.news_of_block (cs := #[.int .i64 cap,.int .i64 first,.slice a2 rl2 q2,.slice c2 cl2 p2]) (t := 63) (fr := (0,0)) (heap_alloc_new _ _)) (by simp [RD.cells,Value.oneCell']) (by unfold maxLen; omega) (by omega) (by have := hf3.out.bel.size; simp; omega) ?_; intro v2 w3 ho3 hg3; obtain ⟨a3,c3',rfl⟩ := own_rgV ho3; have hst := FO.ring (hf3.out.under (fbelow_new _ _)) (HOR.out.keep (tbelow_grown (fbelow_new _ _)) (fun _ _ e => by cases e)) HZ.out hwz ho3 hg3; have hc3 := fun o => fb_cell hst.1 o; have hf4 := fun o => unfrozen_of_block0 hst.1 o; have HST : Hid _ := hst.2; clear ho3 hg3 hst))
      all_goals
        go_wp2
        exact ⟨⟨k + 1,a3,c3',rs' ++ [RD.mk cap first a2 rl2 q2 c2 cl2 p2 recs curs],by omega,by go_num,HSM.out ⟨cap,first,a2,rl2,q2,c2,cl2,p2,recs,curs⟩ rfl,HST.out⟩,by simp [intOf]; omega⟩
    · obtain rfl : k = rl := by omega
      have cb := fun o => fb_cell (HK.out.under hf.out.bel).b o
      have HR1 : Hid (rs'.map RD.strip = rs.map RD.strip) := show _ = _ by have h := hsm.out; rwa [List.take_of_length_le (by rw [HLR.out]; exact Nat.le_refl _)] at h
      clear hsm
      go_wp2_with fail
      clear cb
      go_loopw [49] (fun i wr => ∃ (j : Nat) (d : Option Addr) (e : Nat) (ts' : List TD),j ≤ tl ∧ i = .int .i64 j ∧ Hid (ts'.map TD.strip = (ts.take j).map TD.strip) ∧ Hid (FO w wr X a k c none 0 0 d j e now rs' [] ts')) (fun i _ => tl - (intOf i).toNat)
      case atStart => exact ⟨0,none,0,[],by omega,rfl,show _ = _ by simp,hf.out⟩
      case round =>
        obtain ⟨j,d,e,ts',hj,rfl,htm,hg⟩ := hrel
        clear hf
        by_cases hlt2 : j < tl
        · obtain ⟨b,off,t,rfl,e1,g0,g1,g2,g3,g4,g5,hfit⟩ := txsG_at keeps_tfit (HK.out.under hg.out.bel).txs (Below.refl _ _) hlt2
          have HZ : Hid (∀ Z ∈ fabBlks rs' ts' none,Z < wr.heap.size) := fun Z hZ => (hg.out.own.lt hZ).2
          have HSM : Hid (∀ q : TD,q.strip = t.strip → (ts' ++ [q]).map TD.strip = (ts.take (j + 1)).map TD.strip) := fun q hq => by
            obtain ⟨hjl,e2⟩ := List.getElem?_eq_some_iff.1 e1
            rw [List.take_succ_eq_append_getElem hjl,e2,List.map_append,List.map_append,htm.out]
            simp [hq]
          have hg2 : Hid (FO w (wr.alloc t.obj) X a k c none 0 0 d j e now rs' [] ts') := hg.out.under (fbelow_new _ _)
          have HFT : Hid (TFit (wr.alloc t.obj) t) := hfit.out.below (fbelow_new _ _)
          have hwz := hg.out.bel.size
          clear hg hfit e1 htm
          obtain ⟨p1,e1,s1,u1,ra2,rl2,rc2,la2,ll2,lc2,rs2,ls2⟩ := t
          have hrl2 : rl2 ≤ 1048577 := Nat.le_succ_of_le HFT.out.rle
          have hll2 : ll2 ≤ 1048577 := Nat.le_succ_of_le HFT.out.lle
          have c3 := fun o => fb_cell hg2.out.x o
          go_wp2
          go_region_law (first
            | (go_simp; go_at_call 140; refine (impl_copyTxn (p := p1) (e := e1) (s := s1) (u := u1) (ra := ra2) (rl := rl2) (rc := rc2) (la := la2) (ll := ll2) (lc := lc2) rs2 ls2 _ (HFT.out.r.below ((Below.refl _ _).drew)) (HFT.out.l.below ((Below.refl _ _).drew)) hrl2 hll2).mono ?_; rintro x w2 ⟨a2,q2,b2,m2,rfl,ho2,hb2⟩; have hg3 : Hid (FO w w2 X a k c none 0 0 d j e now rs' [] ts') := hg2.out.under (below_tr ((Below.refl _ _).drew) hb2); have HOR : Hid (TD.own ⟨p1,e1,s1,u1,a2,rl2,q2,b2,ll2,m2,rs2,ls2⟩ w2 wr.heap.size) := TD.own.mono (t := ⟨p1,e1,s1,u1,a2,rl2,q2,b2,ll2,m2,rs2,ls2⟩) ho2 (by simp); have c3 := fun o => fb_cell hg3.out.x o; have hlb := fb_lt hg3.out.x; clear hb2 ho2)
            | (refine step_append_own_any (by rfl) _ _ _ (by rfl) w.heap.size 59 t0 _ 6 80 Tryz.underlying29 ht0 hu0 hu1 hu2 (by rfl) (by omega) (.slice d j e) j _ (by rfl) (hg3.out.own.t.alloc _) (some ⟨w2.heap.size,0,none⟩) 1 1 (TD.cells ⟨p1,e1,s1,u1,a2,rl2,q2,b2,ll2,m2,rs2,ls2⟩) (by rfl) (by rfl) (fun e => by cases e) (fun ad e => by cases e; exact World.news_of_block (cs := #[.int .i64 p1,.int .i64 e1,.int .i64 s1,.int .i64 u1,.slice a2 rl2 q2,.slice b2 ll2 m2]) (t := 59) (fr := (0,0)) (heap_alloc_new _ _)) (by simp [TD.cells,Value.oneCell']) (by unfold maxLen; omega) (by omega) (by have := hg3.out.bel.size; simp; omega) ?_; intro v2 w3 ho3 hgr3; obtain ⟨a3,c3',rfl⟩ := own_txV ho3; have hst := FO.txn (hg3.out.under (fbelow_new _ _)) (HOR.out.keep (tbelow_grown (fbelow_new _ _)) (fun _ _ e => by cases e)) HZ.out hwz ho3 hgr3; have hc3 := fun o => fb_cell hst.1 o; have hf4 := fun o => unfrozen_of_block0 hst.1 o; have HST : Hid _ := hst.2; clear ho3 hgr3 hst))
          all_goals
            go_wp2
            exact ⟨⟨j + 1,a3,c3',ts' ++ [TD.mk p1 e1 s1 u1 a2 rl2 q2 b2 ll2 m2 rs2 ls2],by omega,by go_num,HSM.out ⟨p1,e1,s1,u1,a2,rl2,q2,b2,ll2,m2,rs2,ls2⟩ rfl,HST.out⟩,by simp [intOf]; omega⟩
        · obtain rfl : j = tl := by omega
          have cb := fun o => fb_cell (HK.out.under hg.out.bel).b o
          have c3 := fun o => fb_cell hg.out.x o
          have HR2 : Hid (ts'.map TD.strip = ts.map TD.strip) := show _ = _ by have h := htm.out; rwa [List.take_of_length_le (by rw [HLT.out]; exact Nat.le_refl _)] at h
          have HZ : Hid (∀ Z ∈ fabBlks rs' ts' none,Z < wr.heap.size) := fun Z hZ => (hg.out.own.lt hZ).2
          have HNU : Hid (Nums wr.drew ea el es) := ((HK.out.under hg.out.bel).under ((Below.refl _ _).drew)).nums
          have hg2 : Hid (FO w wr.drew X a k c none 0 0 d j e now rs' [] ts') := hg.out.under ((Below.refl _ _).drew)
          clear htm
          go_wp2
          go_region_law (first
            | (refine step_append_own_any (by rfl) _ _ 23 (by rfl) wr.heap.size 2 j0 _ 1 8 Tryz.underlying23 hj0 hy0 hy1 hy2 (by rfl) (by omega) (.slice none 0 0) 0 [] (by rfl) (World.ownsRow_nil _ _ _ _) ea el ec (numCells es) (by rfl) (by rw [List.length_map,HLE.out,Nat.mul_one]) HENIL.out (nums_news HNU.out) (numCells_one _) (by unfold maxLen; omega) (by omega) (Nat.le_refl _) ?_; intro v2 w3 ho3 hgr3; simp only [Nat.zero_add,List.nil_append] at ho3; obtain ⟨a4,c4,rfl,_⟩ := own_numIn ho3; have hst := FO.eps hg2.out HZ.out hg.out.bel.size ho3 hgr3 (fb_lt hg.out.x); have hc3 := fun o => fb_cell hst.1 o; have hf4 := fun o => unfrozen_of_block0 hst.1 o; have HST : Hid _ := hst.2; clear ho3 hgr3 hst))
          all_goals
            have c5 := fun o => fb_cell HST.out.x o
            have cy := fun o => fb_cell HST.out.y o
            have fy := fun o => unfrozen_of_block0 HST.out.y o
            go_wp2
            have hgy := grown_set4 (w3.setCell ⟨X,1,none⟩ (.slice a4 el c4)) w.heap.size 0 (.slice a k c) (.slice a4 el c4) (.slice d j e) (.int .i64 now)
            exact bodyPost_ret (v := fabVal a k c a4 el c4 d j e now) (by simp [results,Tryz.results89,go_sem,cy]) rfl ⟨a,c,a4,c4,d,e,rs',ts',rfl,HST.out.own.box HST.out.y fab_ne hgy,⟨HR1.out,HR2.out⟩,(((HST.out.bel.setCell (p := ⟨w.heap.size,0,none⟩) (Nat.le_refl _) _).setCell (p := ⟨w.heap.size,0 + 1,none⟩) (Nat.le_refl _) _).setCell (p := ⟨w.heap.size,0 + 2,none⟩) (Nat.le_refl _) _).setCell (p := ⟨w.heap.size,0 + 3,none⟩) (Nat.le_refl _) _⟩
end Go.Proofs.YtahccighonddaaaGreatDoor
namespace Go.Proofs.YtahccighonddaaaGreatDoor
open Go.RowKit Go.Maps
attribute [local go_sem ↓] Go.wp_at_zero Go.wp_at_succ
set_option linter.unusedSimpArgs false
set_option linter.unusedVariables false
structure E0 (W u : World) (b : Nat) : Prop where
  bel : Below W.heap.size W u
  y : u.heap[W.heap.size]? = some (fabO none 0 0 none 0 0 none 0 0 0)
  row : u.ownsRow W.heap.size 2 1 (.slice (some ⟨b,0,none⟩) 0 0) 0 []
  lb : W.heap.size < b
structure E1 (W u : World) (X : Nat) (a : Option Addr) (el c : Nat) (es : List Int) : Prop where
  bel : Below W.heap.size W u
  y : u.heap[W.heap.size]? = some (fabO none 0 0 none 0 0 none 0 0 0)
  x : u.heap[X]? = some (fabO none 0 0 none 0 0 none 0 0 0)
  lx : W.heap.size < X
  row : u.ownsRow W.heap.size 2 1 (.slice a el c) el (numCells es)
theorem E0.app1 {W u v : World} {b : Nat} (h : E0 W u b) (hg : u.grownBy v (Value.slice (some ⟨b,0,none⟩) 0 0).ownBlock) : Below W.heap.size W v ∧ v.heap[W.heap.size]? = some (fabO none 0 0 none 0 0 none 0 0 0) := by
  have hl := h.lb
  have hr : (Value.slice (some ⟨b,0,none⟩) 0 0).ownBlock = some b := rfl
  rw [hr] at hg
  exact ⟨h.bel.grown hg h.bel.size (fun k e => by cases e; omega),(hg.block _ (fb_lt h.y) (by simp; omega)).trans h.y⟩
theorem E0.app2 {W u v : World} {b X : Nat} {a : Option Addr} {el c : Nat} {es : List Int} (h : E0 W u b) (hx : u.heap[X]? = some (fabO none 0 0 none 0 0 none 0 0 0) ∧ W.heap.size < X ∧ X ≠ b) (hg : u.grownBy v (Value.slice (some ⟨b,0,none⟩) 0 0).ownBlock) (ho : v.ownsRow W.heap.size 2 1 (.slice a el c) el (numCells es)) : E1 W v X a el c es := by
  obtain ⟨h1,h2⟩ := h.app1 hg
  have hr : (Value.slice (some ⟨b,0,none⟩) 0 0).ownBlock = some b := rfl
  rw [hr] at hg
  exact ⟨h1,h2,(hg.block _ (fb_lt hx.1) (by simp; exact hx.2.2)).trans hx.1,hx.2.1,ho⟩
theorem e1_new {W v : World} {a : Option Addr} {el c : Nat} {es : List Int} (hb : Below W.heap.size W v) (hy : v.heap[W.heap.size]? = some (fabO none 0 0 none 0 0 none 0 0 0)) (ho : v.ownsRow W.heap.size 2 1 (.slice a el c) el (numCells es)) : E1 W (v.alloc (fabO none 0 0 none 0 0 none 0 0 0)) v.heap.size a el c es :=
  ⟨below_tr hb (fbelow_new _ _),((fbelow_new _ _).block _ (fb_lt hy)).trans hy,heap_alloc_new _ _,fb_lt hy,own_below ho (fbelow_new _ _)⟩
theorem E1.start {W u : World} {X : Nat} {a : Option Addr} {el c : Nat} {es : List Int} {now : Int} (h : E1 W u X a el c es) : FO W (set4 u X 0 (.slice none 0 0) (.slice a el c) (.slice none 0 0) (.int .i64 now)) X none 0 0 a el c none 0 0 now [] es [] := by
  have hg := grown_set4 u X 0 (.slice none 0 0) (.slice a el c) (.slice none 0 0) (.int .i64 now)
  have hl := h.lx
  refine ⟨(hg.block _ (fb_lt h.y) (by simp; omega)).trans h.y,?_,⟨World.ownsRow_nil _ _ _ _,own_keep h.row hg (.inr (own_ne h.row h.x (by decide))),World.ownsRow_nil _ _ _ _,(fun _ h => by cases h),(fun _ h => by cases h),by simpa [fabBlks] using nodup_opt (blk? a)⟩,hl,h.bel.grown hg h.bel.size (fun k e => by cases e; omega)⟩
  have h0 := heap_setCell_same u X 0 _ _ (.slice none 0 0) h.x
  have h1 := heap_setCell_same _ X 1 _ _ (.slice a el c) h0
  have h2 := heap_setCell_same _ X 2 _ _ (.slice none 0 0) h1
  exact heap_setCell_same _ X 3 _ _ (.int .i64 now) h2
theorem fo_new {W v : World} {a : Option Addr} {el c : Nat} {es : List Int} {now : Int} (hb : Below W.heap.size W v) (hy : v.heap[W.heap.size]? = some (fabO none 0 0 none 0 0 none 0 0 0)) (ho : v.ownsRow W.heap.size 2 1 (.slice a el c) el (numCells es)) : FO W (v.alloc (fabO none 0 0 a el c none 0 0 now)) v.heap.size none 0 0 a el c none 0 0 now [] es [] :=
  ⟨((fbelow_new _ _).block _ (fb_lt hy)).trans hy,heap_alloc_new _ _,⟨World.ownsRow_nil _ _ _ _,own_below ho (fbelow_new _ _),World.ownsRow_nil _ _ _ _,(fun _ h => by cases h),(fun _ h => by cases h),by simpa [fabBlks] using nodup_opt (blk? a)⟩,fb_lt hy,below_tr hb (fbelow_new _ _)⟩
theorem e0_row {W : World} (u : World) (h : W.heap.size ≤ u.heap.size) : (u.alloc (.cells #[] 2)).ownsRow W.heap.size 2 1 (.slice (some ⟨u.heap.size,0,none⟩) 0 0) 0 [] := own_base (t_row u 2 1) h
set_option maxRecDepth 100000 in
set_option maxHeartbeats 4000000 in
theorem spec_fcopy (ra : Option Addr) (rl rc : Nat) (ea : Option Addr) (el ec : Nat) (ta : Option Addr) (tl tc : Nat) (now : Int) (rs : List RD) (es : List Int) (ts : List TD) (w : World)
    (hi : FIn w ra rl ea el ta tl rs es ts) (hen : ea = none → el = 0 ∧ ec = 0) :
    Calls Tryz.prog 37 #[fabVal ra rl rc ea el ec ta tl tc now] w fun x w' => ∃ d : FD,x = .returned (d.val now) ∧ d.own w' w.heap.size ∧ d.rs.map RD.strip = rs.map RD.strip ∧ d.es = es ∧ d.ts.map TD.strip = ts.map TD.strip ∧ d.rl = rl ∧ d.el = el ∧ d.tl = tl ∧ Below w.heap.size w w' := by
  obtain ⟨i0,hi0,hz0,hz1,hz2⟩ := info_parts info_ringF
  obtain ⟨t0,ht0,hu0,hu1,hu2⟩ := info_parts info_txnF
  obtain ⟨j0,hj0,hy0,hy1,hy2⟩ := info_parts info_i64
  have HI : Hid (FIn w ra rl ea el ta tl rs es ts) := hi
  have HLR : Hid (rs.length = rl) := hi.rs.1
  have HLT : Hid (ts.length = tl) := hi.ts.1
  have HLE : Hid (es.length = el) := hi.es.1
  have hrl := hi.rle
  have htl := hi.tle
  have hel := hi.ele
  have HEN : Hid (ea = none → el = 0 ∧ ec = 0) := hen
  clear hi hen
  obtain ⟨W,hW⟩ : ∃ W,w.alloc (fabO ra rl rc ea el ec ta tl tc now) = W := ⟨_,rfl⟩
  have HBW : Hid (Below w.heap.size w W) := hW ▸ fbelow_new _ _
  have HWS : Hid (W.heap.size = w.heap.size + 1) := show _ = _ by rw [← hW]; simp
  have HSRC : Hid (∀ v,Below W.heap.size W v → v.heap[w.heap.size]? = some (fabO ra rl rc ea el ec ta tl tc now)) := fun v hb => (hb.block _ (by rw [HWS.out]; omega)).trans (by subst hW; exact heap_alloc_new _ _)
  have HBB : Hid (∀ v,Below W.heap.size W v → Below w.heap.size w v) := fun v hb => HBW.out.trans (hb.mono HBW.out.size)
  have HNU : Hid (∀ v,Below W.heap.size W v → Nums v ea el es) := fun v hb => nums_below HI.out.es (HBB.out v hb)
  have HY0 : Hid (FB W (W.alloc (fabO none 0 0 none 0 0 none 0 0 0)) (fabO none 0 0 none 0 0 none 0 0 0)) := fb_new _ _ _
  have HU1 : Hid (E0 W ((W.alloc (fabO none 0 0 none 0 0 none 0 0 0)).alloc (.cells #[] 2)).drew (W.heap.size + 1)) := ⟨(below_tr (fbelow_new _ _) (fbelow_new _ _)).drew,((fbelow_new _ _).block _ (by simp)).trans (heap_alloc_new _ _),by have h := e0_row (W := W) (W.alloc (fabO none 0 0 none 0 0 none 0 0 0)) (by simp); rw [World.size_alloc] at h; exact own_below h ((Below.refl _ _).drew),by omega⟩
  have HU2 : Hid (E0 W (((W.alloc (fabO none 0 0 none 0 0 none 0 0 0)).alloc (.cells #[] 2)).alloc (fabO none 0 0 none 0 0 none 0 0 0)).drew (W.heap.size + 1)) := ⟨(below_tr (below_tr (fbelow_new _ _) (fbelow_new _ _)) (fbelow_new _ _)).drew,((fbelow_new _ _).block _ (by simp; omega)).trans (((fbelow_new _ _).block _ (by simp)).trans (heap_alloc_new _ _)),by have h := e0_row (W := W) (W.alloc (fabO none 0 0 none 0 0 none 0 0 0)) (by simp); rw [World.size_alloc] at h; exact own_below h ((fbelow_new _ _).drew),by omega⟩
  have HU3 : Hid (Below W.heap.size W ((W.alloc (fabO none 0 0 none 0 0 none 0 0 0)).alloc (fabO none 0 0 none 0 0 none 0 0 0)).drew) := (below_tr (fbelow_new _ _) (fbelow_new _ _)).drew
  have HU4 : Hid (E0 W (((W.alloc (fabO none 0 0 none 0 0 none 0 0 0)).alloc (fabO none 0 0 none 0 0 none 0 0 0)).alloc (.cells #[] 2)).drew (W.heap.size + 1 + 1)) := ⟨(below_tr (below_tr (fbelow_new _ _) (fbelow_new _ _)) (fbelow_new _ _)).drew,((fbelow_new _ _).block _ (by simp; omega)).trans (((fbelow_new _ _).block _ (by simp)).trans (heap_alloc_new _ _)),by have h := e0_row (W := W) ((W.alloc (fabO none 0 0 none 0 0 none 0 0 0)).alloc (fabO none 0 0 none 0 0 none 0 0 0)) (by simp; omega); rw [World.size_alloc,World.size_alloc] at h; exact own_below h ((Below.refl _ _).drew),by omega⟩
  have HX2 : Hid ((((W.alloc (fabO none 0 0 none 0 0 none 0 0 0)).alloc (.cells #[] 2)).alloc (fabO none 0 0 none 0 0 none 0 0 0)).drew.heap[W.heap.size + 1 + 1]? = some (fabO none 0 0 none 0 0 none 0 0 0) ∧ W.heap.size < W.heap.size + 1 + 1 ∧ W.heap.size + 1 + 1 ≠ W.heap.size + 1) := ⟨by have h := heap_alloc_new ((W.alloc (fabO none 0 0 none 0 0 none 0 0 0)).alloc (.cells #[] 2)) (fabO none 0 0 none 0 0 none 0 0 0); rw [World.size_alloc,World.size_alloc] at h; exact h,by omega,by omega⟩
  have HX4 : Hid ((((W.alloc (fabO none 0 0 none 0 0 none 0 0 0)).alloc (fabO none 0 0 none 0 0 none 0 0 0)).alloc (.cells #[] 2)).drew.heap[W.heap.size + 1]? = some (fabO none 0 0 none 0 0 none 0 0 0) ∧ W.heap.size < W.heap.size + 1 ∧ W.heap.size + 1 ≠ W.heap.size + 1 + 1) := ⟨by have h := heap_alloc_new (W.alloc (fabO none 0 0 none 0 0 none 0 0 0)) (fabO none 0 0 none 0 0 none 0 0 0); rw [World.size_alloc] at h; exact ((fbelow_new _ _).block _ (by simp)).trans h,by omega,by omega⟩
  go_enter Tryz.func37,Tryz.ntmps37
  go_upto_region 1 with fail
  clear hW
  go_cut [3] (fun p wc => ∃ (X : Nat) (a : Option Addr) (c : Nat),p = .pointer (some ⟨X,0,none⟩) ∧ Hid (FO W wc X none 0 0 a el c none 0 0 now [] es []))
  case first =>
    refine wp_region_held_drew (S := (fun x => ∀ o,x.cell? ⟨w.heap.size,o,none⟩ = (#[.slice ra rl rc,.slice ea el ec,.slice ta tl tc,.int .i64 now] : Array Value)[o]?)) (by kernel_rfl) (fun o => fb_cell (HSRC.out _ HY0.out.bel) o) (fun hHeld => ?_)
    refine tk (i := 1) (v := ?_) rfl hHeld (.inl ⟨by rfl,?_⟩) ?_
    rotate_left
    · intro wy hSw; (try dsimp only at hSw); go_simp; (try with_reducible rfl)
    try simp only [Act.put,n1,n2,n3,n4,n5,n6]
    refine tk (i := 2) (v := ?_) rfl hHeld (.inl ⟨by rfl,?_⟩) ?_
    rotate_left
    · intro wy hSw; (try dsimp only at hSw); go_simp; (try with_reducible rfl)
    try simp only [Act.put,n1,n2,n3,n4,n5,n6]
    refine tk (i := 4) (v := ?_) rfl hHeld (.inl ⟨by rfl,?_⟩) ?_
    rotate_left
    · intro wy hSw; (try dsimp only at hSw); go_simp; (try with_reducible rfl)
    try simp only [Act.put,n1,n2,n3,n4,n5,n6]
    refine tk (i := 5) (v := ?_) rfl hHeld (.inl ⟨by rfl,?_⟩) ?_
    rotate_left
    · intro wy hSw; (try dsimp only at hSw); go_simp; (try with_reducible rfl)
    try simp only [Act.put,n1,n2,n3,n4,n5,n6]
    refine wpAnyH_ready (rs := [0,7]) (by kernel_rfl) (by simp) ?_
    refine AllReadyH.cons rfl (fun K hK => ?_) (AllReadyH.cons rfl (fun K hK => ?_) AllReadyH.nil)
    · skip
      go_simp
      refine hK.out _ _ ?_ (fun hHeld => ?_)
      · exact fun o => fb_cell (HSRC.out _ (by first | exact HU1.out.bel | exact HU2.out.bel | exact HU3.out | exact HU4.out.bel)) o
      clear hK K
      try simp only [Act.put,n1,n2,n3,n4,n5,n6]
      refine wpAnyH_ready (rs := [3,7]) (by kernel_rfl) (by simp) ?_
      refine AllReadyH.cons rfl (fun K hK => ?_) (AllReadyH.cons rfl (fun K hK => ?_) AllReadyH.nil)
      · skip
        refine step_append_own_any (by rfl) _ _ 23 (by rfl) W.heap.size 2 j0 _ 1 8 Tryz.underlying23 hj0 hy0 hy1 hy2 (by rfl) (by omega) _ 0 [] (by rfl) (by first | exact HU1.out.row | exact HU2.out.row | exact HU4.out.row) ea el ec (numCells es) (by rfl) (by rw [List.length_map,HLE.out,Nat.mul_one]) HEN.out (nums_news (HNU.out _ (by first | exact HU1.out.bel | exact HU2.out.bel | exact HU4.out.bel))) (numCells_one _) (by unfold maxLen; omega) (by omega) (by first | exact HU1.out.bel.size | exact HU2.out.bel.size | exact HU4.out.bel.size) ?_
        intro v2 w3 ho3 hg3
        simp only [Nat.zero_add,List.nil_append] at ho3
        obtain ⟨a4,c4,rfl⟩ := own_numV ho3
        have HD5 : Hid _ := HU1.out.app1 hg3
        have HB5 : Hid (Below W.heap.size W w3) := HD5.out.1
        have HO5 : Hid _ := ho3
        clear ho3 hg3
        refine hK.out _ _ ?_ (fun hHeld => ?_)
        · exact fun o => fb_cell (HSRC.out _ (by first | exact HB5.out)) o
        clear hK K
        try simp only [Act.put,n1,n2,n3,n4,n5,n6]
        refine tk (i := 6) (v := ?_) rfl hHeld (.inl ⟨by rfl,?_⟩) ?_
        rotate_left
        · intro wy hSw; (try dsimp only at hSw); go_simp; (try with_reducible rfl)
        try simp only [Act.put,n1,n2,n3,n4,n5,n6]
        refine wpAnyH_ready (rs := [7]) (by kernel_rfl) (by simp) ?_
        refine AllReadyH.cons rfl (fun K hK => ?_) AllReadyH.nil
        go_simp
        have HE : Hid (E1 W (w3.alloc (fabO none 0 0 none 0 0 none 0 0 0)) w3.heap.size a4 el c4 es) := e1_new HD5.out.1 HD5.out.2 HO5.out
        refine hK.out _ _ ?_ (fun hHeld => ?_)
        · exact fun o => fb_cell (HSRC.out _ (by first | exact HE.out.bel)) o
        clear hK K
        try simp only [Act.put,n1,n2,n3,n4,n5,n6]
        refine wpAnyH_ready (rs := [8]) (by kernel_rfl) (by simp) ?_
        refine AllReadyH.cons rfl (fun K hK => ?_) AllReadyH.nil
        have cx := fun o => fb_cell HE.out.x o
        have fx := fun o => unfrozen_of_block0 HE.out.x o
        go_simp
        have HF : Hid (FO W _ _ none 0 0 a4 el c4 none 0 0 now [] es []) := (by first | exact fo_new (now := now) HD5.out.1 HD5.out.2 HO5.out | exact HE.out.start (now := now))
        refine hK.out _ _ ?_ (fun hHeld => ?_)
        · exact fun o => fb_cell (HSRC.out _ HF.out.bel) o
        clear hK K
        try simp only [Act.put,n1,n2,n3,n4,n5,n6]
        refine wpAnyH_done (by kernel_rfl) ?_ _
        go_wp2_with fail
        go_meet
        exact ⟨_,a4,c4,rfl,HF⟩
      · skip
        go_simp
        refine hK.out _ _ ?_ (fun hHeld => ?_)
        · exact fun o => fb_cell (HSRC.out _ (by first | exact HU1.out.bel | exact HU2.out.bel | exact HU3.out | exact HU4.out.bel)) o
        clear hK K
        try simp only [Act.put,n1,n2,n3,n4,n5,n6]
        refine wpAnyH_ready (rs := [3]) (by kernel_rfl) (by simp) ?_
        refine AllReadyH.cons rfl (fun K hK => ?_) AllReadyH.nil
        refine step_append_own_any (by rfl) _ _ 23 (by rfl) W.heap.size 2 j0 _ 1 8 Tryz.underlying23 hj0 hy0 hy1 hy2 (by rfl) (by omega) _ 0 [] (by rfl) (by first | exact HU1.out.row | exact HU2.out.row | exact HU4.out.row) ea el ec (numCells es) (by rfl) (by rw [List.length_map,HLE.out,Nat.mul_one]) HEN.out (nums_news (HNU.out _ (by first | exact HU1.out.bel | exact HU2.out.bel | exact HU4.out.bel))) (numCells_one _) (by unfold maxLen; omega) (by omega) (by first | exact HU1.out.bel.size | exact HU2.out.bel.size | exact HU4.out.bel.size) ?_
        intro v2 w3 ho3 hg3
        simp only [Nat.zero_add,List.nil_append] at ho3
        obtain ⟨a4,c4,rfl⟩ := own_numV ho3
        have hEX : E1 W w3 _ a4 el c4 es := (by first | exact HU2.out.app2 HX2.out hg3 ho3 | exact HU4.out.app2 HX4.out hg3 ho3)
        have HE : Hid _ := hEX
        clear hEX
        have HB5 : Hid (Below W.heap.size W w3) := HE.out.bel
        clear ho3 hg3
        refine hK.out _ _ ?_ (fun hHeld => ?_)
        · exact fun o => fb_cell (HSRC.out _ (by first | exact HB5.out)) o
        clear hK K
        try simp only [Act.put,n1,n2,n3,n4,n5,n6]
        refine tk (i := 6) (v := ?_) rfl hHeld (.inl ⟨by rfl,?_⟩) ?_
        rotate_left
        · intro wy hSw; (try dsimp only at hSw); go_simp; (try with_reducible rfl)
        try simp only [Act.put,n1,n2,n3,n4,n5,n6]
        refine wpAnyH_ready (rs := [8]) (by kernel_rfl) (by simp) ?_
        refine AllReadyH.cons rfl (fun K hK => ?_) AllReadyH.nil
        have cx := fun o => fb_cell HE.out.x o
        have fx := fun o => unfrozen_of_block0 HE.out.x o
        go_simp
        have HF : Hid (FO W _ _ none 0 0 a4 el c4 none 0 0 now [] es []) := (by first | exact fo_new (now := now) HD5.out.1 HD5.out.2 HO5.out | exact HE.out.start (now := now))
        refine hK.out _ _ ?_ (fun hHeld => ?_)
        · exact fun o => fb_cell (HSRC.out _ HF.out.bel) o
        clear hK K
        try simp only [Act.put,n1,n2,n3,n4,n5,n6]
        refine wpAnyH_done (by kernel_rfl) ?_ _
        go_wp2_with fail
        go_meet
        exact ⟨_,a4,c4,rfl,HF⟩
    · skip
      go_simp
      refine hK.out _ _ ?_ (fun hHeld => ?_)
      · exact fun o => fb_cell (HSRC.out _ (by first | exact HU1.out.bel | exact HU2.out.bel | exact HU3.out | exact HU4.out.bel)) o
      clear hK K
      try simp only [Act.put,n1,n2,n3,n4,n5,n6]
      refine wpAnyH_ready (rs := [0]) (by kernel_rfl) (by simp) ?_
      refine AllReadyH.cons rfl (fun K hK => ?_) AllReadyH.nil
      go_simp
      refine hK.out _ _ ?_ (fun hHeld => ?_)
      · exact fun o => fb_cell (HSRC.out _ (by first | exact HU1.out.bel | exact HU2.out.bel | exact HU3.out | exact HU4.out.bel)) o
      clear hK K
      try simp only [Act.put,n1,n2,n3,n4,n5,n6]
      refine wpAnyH_ready (rs := [3]) (by kernel_rfl) (by simp) ?_
      refine AllReadyH.cons rfl (fun K hK => ?_) AllReadyH.nil
      refine step_append_own_any (by rfl) _ _ 23 (by rfl) W.heap.size 2 j0 _ 1 8 Tryz.underlying23 hj0 hy0 hy1 hy2 (by rfl) (by omega) _ 0 [] (by rfl) (by first | exact HU1.out.row | exact HU2.out.row | exact HU4.out.row) ea el ec (numCells es) (by rfl) (by rw [List.length_map,HLE.out,Nat.mul_one]) HEN.out (nums_news (HNU.out _ (by first | exact HU1.out.bel | exact HU2.out.bel | exact HU4.out.bel))) (numCells_one _) (by unfold maxLen; omega) (by omega) (by first | exact HU1.out.bel.size | exact HU2.out.bel.size | exact HU4.out.bel.size) ?_
      intro v2 w3 ho3 hg3
      simp only [Nat.zero_add,List.nil_append] at ho3
      obtain ⟨a4,c4,rfl⟩ := own_numV ho3
      have hEX : E1 W w3 _ a4 el c4 es := (by first | exact HU2.out.app2 HX2.out hg3 ho3 | exact HU4.out.app2 HX4.out hg3 ho3)
      have HE : Hid _ := hEX
      clear hEX
      have HB5 : Hid (Below W.heap.size W w3) := HE.out.bel
      clear ho3 hg3
      refine hK.out _ _ ?_ (fun hHeld => ?_)
      · exact fun o => fb_cell (HSRC.out _ (by first | exact HB5.out)) o
      clear hK K
      try simp only [Act.put,n1,n2,n3,n4,n5,n6]
      refine tk (i := 6) (v := ?_) rfl hHeld (.inl ⟨by rfl,?_⟩) ?_
      rotate_left
      · intro wy hSw; (try dsimp only at hSw); go_simp; (try with_reducible rfl)
      try simp only [Act.put,n1,n2,n3,n4,n5,n6]
      refine wpAnyH_ready (rs := [8]) (by kernel_rfl) (by simp) ?_
      refine AllReadyH.cons rfl (fun K hK => ?_) AllReadyH.nil
      have cx := fun o => fb_cell HE.out.x o
      have fx := fun o => unfrozen_of_block0 HE.out.x o
      go_simp
      have HF : Hid (FO W _ _ none 0 0 a4 el c4 none 0 0 now [] es []) := (by first | exact fo_new (now := now) HD5.out.1 HD5.out.2 HO5.out | exact HE.out.start (now := now))
      refine hK.out _ _ ?_ (fun hHeld => ?_)
      · exact fun o => fb_cell (HSRC.out _ HF.out.bel) o
      clear hK K
      try simp only [Act.put,n1,n2,n3,n4,n5,n6]
      refine wpAnyH_done (by kernel_rfl) ?_ _
      go_wp2_with fail
      go_meet
      exact ⟨_,a4,c4,rfl,HF⟩
  case rest =>
  obtain ⟨X,ea2,ec2,rfl,HS⟩ := hcut
  have cs0 := fun o => fb_cell (HSRC.out _ HS.out.bel) o
  clear HU1 HU2 HU3 HU4 HX2 HX4 HY0
  go_wp2_with fail
  clear cs0
  go_loopw [4] (fun i wr => ∃ (k : Nat) (a : Option Addr) (c : Nat) (rs' : List RD),k ≤ rl ∧ i = .int .i64 k ∧ Hid (rs'.map RD.strip = (rs.take k).map RD.strip) ∧ Hid (FO W wr X a k c ea2 el ec2 none 0 0 now rs' es [])) (fun i _ => rl - (intOf i).toNat)
  case atStart => exact ⟨0,none,0,[],by omega,rfl,show _ = _ by simp,HS.out⟩
  case round =>
    obtain ⟨k,a,c,rs',hk,rfl,hsm,hf⟩ := hrel
    clear HS
    have cs0 := fun o => fb_cell (HSRC.out _ hf.out.bel) o
    by_cases hlt : k < rl
    · obtain ⟨b,off,r,rfl,e1,g0,g1,g2,g3,hfit⟩ := rngsG_at keeps_fit HI.out.rs (HBB.out _ hf.out.bel) hlt
      have HZ : Hid (∀ Z ∈ fabBlks rs' [] ea2,Z < wr.heap.size) := fun Z hZ => (hf.out.own.lt hZ).2
      have HSM : Hid (∀ q : RD,q.strip = r.strip → (rs' ++ [q]).map RD.strip = (rs.take (k + 1)).map RD.strip) := fun q hq => by
        obtain ⟨hj,e2⟩ := List.getElem?_eq_some_iff.1 e1
        rw [List.take_succ_eq_append_getElem hj,e2,List.map_append,List.map_append,hsm.out]
        simp [hq]
      have HFT : Hid (r.fit wr) := hfit.out
      have hwz := hf.out.bel.size
      clear hfit e1 hsm
      obtain ⟨cap,first,ra2,rl2,rc2,ca2,cl2,cc2,recs,curs⟩ := r
      have hrl2 : rl2 ≤ 1048577 := Nat.le_succ_of_le HFT.out.rle
      have hcl2 : cl2 ≤ 1048577 := Nat.le_succ_of_le HFT.out.cle
      have c3 := fun o => fb_cell hf.out.x o
      have hki : (k : Int) < (rl : Int) := by omega
      simp only at g0 g1 g2 g3
      go_wp2
      go_region_law (first
        | (go_simp; go_at_call 81; refine (spec_copy (cap := cap) (first := first) recs curs _ (HFT.out.str.below ((Below.refl _ _).drew)) (HFT.out.cur.below ((Below.refl _ _).drew)) hrl2 hcl2).mono ?_; rintro x w2 ⟨a2,q2,c2,p2,rfl,ho2,hb2⟩; have hf3 : Hid (FO W w2 X a k c ea2 el ec2 none 0 0 now rs' es []) := hf.out.under (below_tr ((Below.refl _ _).drew) hb2); have HOR : Hid (RD.own ⟨cap,first,a2,rl2,q2,c2,cl2,p2,recs,curs⟩ w2 wr.heap.size) := RD.own.mono (r := ⟨cap,first,a2,rl2,q2,c2,cl2,p2,recs,curs⟩) ho2 (by simp); have c3 := fun o => fb_cell hf3.out.x o; have hlb := fb_lt hf3.out.x; clear hb2 ho2)
        | (refine step_append_own_any (by rfl) _ _ _ (by rfl) W.heap.size 63 i0 _ 4 64 Tryz.underlying28 hi0 hz0 hz1 hz2 (by rfl) (by omega) (.slice a k c) k _ (by rfl) (hf3.out.own.r.alloc _) (some ⟨w2.heap.size,0,none⟩) 1 1 (RD.cells ⟨cap,first,a2,rl2,q2,c2,cl2,p2,recs,curs⟩) (by rfl) (by rfl) (fun e => by cases e) (fun ad e => by cases e; exact World.news_of_block (cs := #[.int .i64 cap,.int .i64 first,.slice a2 rl2 q2,.slice c2 cl2 p2]) (t := 63) (fr := (0,0)) (heap_alloc_new _ _)) (by simp [RD.cells,Value.oneCell']) (by unfold maxLen; omega) (by omega) (by have := hf3.out.bel.size; simp; omega) ?_; intro v2 w3 ho3 hg3; obtain ⟨a3,c3',rfl⟩ := own_rgV ho3; have hst := FO.ringE (hf3.out.under (fbelow_new _ _)) (HOR.out.keep (tbelow_grown (fbelow_new _ _)) (fun _ _ e => by cases e)) HZ.out hwz ho3 hg3; have hc3 := fun o => fb_cell hst.1 o; have hf4 := fun o => unfrozen_of_block0 hst.1 o; have HST : Hid _ := hst.2; clear ho3 hg3 hst))
      all_goals
        go_wp2
        exact ⟨⟨k + 1,a3,c3',rs' ++ [RD.mk cap first a2 rl2 q2 c2 cl2 p2 recs curs],by omega,by go_num,HSM.out ⟨cap,first,a2,rl2,q2,c2,cl2,p2,recs,curs⟩ rfl,HST.out⟩,by simp [intOf]; omega⟩
    · obtain rfl : k = rl := by omega
      have HR1 : Hid (rs'.map RD.strip = rs.map RD.strip) := show _ = _ by have h := hsm.out; rwa [List.take_of_length_le (by rw [HLR.out]; exact Nat.le_refl _)] at h
      clear hsm
      go_wp2_with fail
      clear cs0
      go_loopw [5] (fun i wr => ∃ (j : Nat) (d : Option Addr) (e : Nat) (ts' : List TD),j ≤ tl ∧ i = .int .i64 j ∧ Hid (ts'.map TD.strip = (ts.take j).map TD.strip) ∧ Hid (FO W wr X a k c ea2 el ec2 d j e now rs' es ts')) (fun i _ => tl - (intOf i).toNat)
      case atStart => exact ⟨0,none,0,[],by omega,rfl,show _ = _ by simp,hf.out⟩
      case round =>
        obtain ⟨j,d,e,ts',hj,rfl,htm,hg⟩ := hrel
        clear hf
        have cs0 := fun o => fb_cell (HSRC.out _ hg.out.bel) o
        by_cases hlt2 : j < tl
        · obtain ⟨b,off,t,rfl,e1,g0,g1,g2,g3,g4,g5,hfit⟩ := txsG_at keeps_tfit HI.out.ts (HBB.out _ hg.out.bel) hlt2
          have HZ : Hid (∀ Z ∈ fabBlks rs' ts' ea2,Z < wr.heap.size) := fun Z hZ => (hg.out.own.lt hZ).2
          have HSM : Hid (∀ q : TD,q.strip = t.strip → (ts' ++ [q]).map TD.strip = (ts.take (j + 1)).map TD.strip) := fun q hq => by
            obtain ⟨hjl,e2⟩ := List.getElem?_eq_some_iff.1 e1
            rw [List.take_succ_eq_append_getElem hjl,e2,List.map_append,List.map_append,htm.out]
            simp [hq]
          have HFT : Hid (TFit wr t) := hfit.out
          have hwz := hg.out.bel.size
          clear hfit e1 htm
          obtain ⟨p1,e1,s1,u1,ra2,rl2,rc2,la2,ll2,lc2,rs2,ls2⟩ := t
          have hrl2 : rl2 ≤ 1048577 := Nat.le_succ_of_le HFT.out.rle
          have hll2 : ll2 ≤ 1048577 := Nat.le_succ_of_le HFT.out.lle
          have c3 := fun o => fb_cell hg.out.x o
          have hji : (j : Int) < (tl : Int) := by omega
          simp only at g0 g1 g2 g3 g4 g5
          go_wp2
          go_region_law (first
            | (go_simp; go_at_call 83; refine (spec_tcopy (p := p1) (e := e1) (s := s1) (u := u1) (ra := ra2) (rl := rl2) (rc := rc2) (la := la2) (ll := ll2) (lc := lc2) rs2 ls2 _ (HFT.out.r.below ((Below.refl _ _).drew)) (HFT.out.l.below ((Below.refl _ _).drew)) hrl2 hll2).mono ?_; rintro x w2 ⟨a2,q2,b2,m2,rfl,ho2,hb2⟩; have hg3 : Hid (FO W w2 X a k c ea2 el ec2 d j e now rs' es ts') := hg.out.under (below_tr ((Below.refl _ _).drew) hb2); have HOR : Hid (TD.own ⟨p1,e1,s1,u1,a2,rl2,q2,b2,ll2,m2,rs2,ls2⟩ w2 wr.heap.size) := TD.own.mono (t := ⟨p1,e1,s1,u1,a2,rl2,q2,b2,ll2,m2,rs2,ls2⟩) ho2 (by simp); have c3 := fun o => fb_cell hg3.out.x o; have hlb := fb_lt hg3.out.x; clear hb2 ho2)
            | (refine step_append_own_any (by rfl) _ _ _ (by rfl) W.heap.size 59 t0 _ 6 80 Tryz.underlying29 ht0 hu0 hu1 hu2 (by rfl) (by omega) (.slice d j e) j _ (by rfl) (hg3.out.own.t.alloc _) (some ⟨w2.heap.size,0,none⟩) 1 1 (TD.cells ⟨p1,e1,s1,u1,a2,rl2,q2,b2,ll2,m2,rs2,ls2⟩) (by rfl) (by rfl) (fun e => by cases e) (fun ad e => by cases e; exact World.news_of_block (cs := #[.int .i64 p1,.int .i64 e1,.int .i64 s1,.int .i64 u1,.slice a2 rl2 q2,.slice b2 ll2 m2]) (t := 59) (fr := (0,0)) (heap_alloc_new _ _)) (by simp [TD.cells,Value.oneCell']) (by unfold maxLen; omega) (by omega) (by have := hg3.out.bel.size; simp; omega) ?_; intro v2 w3 ho3 hgr3; obtain ⟨a3,c3',rfl⟩ := own_txV ho3; have hst := FO.txnE (hg3.out.under (fbelow_new _ _)) (HOR.out.keep (tbelow_grown (fbelow_new _ _)) (fun _ _ e => by cases e)) HZ.out hwz ho3 hgr3; have hc3 := fun o => fb_cell hst.1 o; have hf4 := fun o => unfrozen_of_block0 hst.1 o; have HST : Hid _ := hst.2; clear ho3 hgr3 hst))
          all_goals
            go_wp2
            exact ⟨⟨j + 1,a3,c3',ts' ++ [TD.mk p1 e1 s1 u1 a2 rl2 q2 b2 ll2 m2 rs2 ls2],by omega,by go_num,HSM.out ⟨p1,e1,s1,u1,a2,rl2,q2,b2,ll2,m2,rs2,ls2⟩ rfl,HST.out⟩,by simp [intOf]; omega⟩
        · obtain rfl : j = tl := by omega
          have HR2 : Hid (ts'.map TD.strip = ts.map TD.strip) := show _ = _ by have h := htm.out; rwa [List.take_of_length_le (by rw [HLT.out]; exact Nat.le_refl _)] at h
          have c5 := fun o => fb_cell hg.out.x o
          have cy := fun o => fb_cell hg.out.y o
          have fy := fun o => unfrozen_of_block0 hg.out.y o
          have hWl := HBW.out.size
          clear htm
          go_wp2
          have hgy := grown_set4 wr W.heap.size 0 (.slice a k c) (.slice ea2 el ec2) (.slice d j e) (.int .i64 now)
          exact bodyPost_ret (v := fabVal a k c ea2 el ec2 d j e now) (by simp [results,Tryz.results37,go_sem,cy]) rfl ⟨⟨a,k,c,ea2,el,ec2,d,j,e,rs',es,ts'⟩,rfl,(hg.out.own.box hg.out.y fab_ne hgy).mono hWl,HR1.out,rfl,HR2.out,rfl,rfl,rfl,HBB.out _ (hg.out.bel.grown hgy hg.out.bel.size (fun k e => by cases e; exact Nat.le_refl _))⟩
end Go.Proofs.YtahccighonddaaaGreatDoor
namespace Go.Proofs.YtahccighonddaaaGreatDoor
open Go.RowKit Go.Maps
set_option linter.unusedSimpArgs false
set_option linter.unusedVariables false
theorem AnsT.drew {w u : World} {T : FT} {x : Ending} (h : AnsT w u T x ∧ Below w.heap.size w u) : AnsT w u.drew T x ∧ Below w.heap.size w u.drew := by
  obtain ⟨⟨d,hx,ho,hs⟩,hb⟩ := h
  exact ⟨⟨d,hx,FD.own.below ho ((Below.refl _ _).drew),hs⟩,hb.drew⟩
structure OB (w v : World) (src : Obj) (Z : Nat) (now : Int) (d : FD) : Prop where
  s : ∃ C,src = .cells C 31 (0,0)
  b0 : v.heap[w.heap.size]? = some src
  y : v.heap[w.heap.size + 1]? = some (outO none 0 0 none 0 0 none 0 0 0 0 0)
  z : v.heap[Z]? = some (fabO d.ra d.rl d.rc d.ea d.el d.ec d.ta d.tl d.tc now)
  own : d.own v w.heap.size
  lz : w.heap.size + 1 < Z
  bel : Below w.heap.size w v
section
variable {w u v : World} {src : Obj} {Z k tb : Nat} {now : Int} {d : FD}
theorem OB.under (h : OB w u src Z now d) (hb : Below u.heap.size u v) : OB w v src Z now d :=
  ⟨h.s,(hb.block _ (fb_lt h.b0)).trans h.b0,(hb.block _ (fb_lt h.y)).trans h.y,(hb.block _ (fb_lt h.z)).trans h.z,h.own.below hb,h.lz,below_tr h.bel hb⟩
theorem OB.row {d' : FD} {C : Array Value} {T : TypeId} (h : OB w u src Z now d) (hg : u.grownBy v (some tb)) (hC : u.heap[tb]? = some (.cells C T (0,0))) (hT : T ≠ 31 ∧ T ≠ 33) (hlo : w.heap.size ≤ tb) (hd : d'.own v w.heap.size) (he : d'.ra = d.ra ∧ d'.rl = d.rl ∧ d'.rc = d.rc ∧ d'.ea = d.ea ∧ d'.el = d.el ∧ d'.ec = d.ec ∧ d'.ta = d.ta ∧ d'.tl = d.tl ∧ d'.tc = d.tc) : OB w v src Z now d' := by
  obtain ⟨C0,e0⟩ := h.s
  have hne : ∀ {i : Nat} {D : Array Value} {S : TypeId},u.heap[i]? = some (.cells D S (0,0)) → T ≠ S → some i ≠ some tb := fun hi hs e => by
    cases e
    rw [hC] at hi
    cases hi
    exact hs rfl
  obtain ⟨e1,e2,e3,e4,e5,e6,e7,e8,e9⟩ := he
  refine ⟨h.s,(hg.block _ (fb_lt h.b0) (hne (e0 ▸ h.b0) hT.1)).trans h.b0,(hg.block _ (fb_lt h.y) (hne h.y hT.2)).trans h.y,?_,hd,h.lz,h.bel.grown hg h.bel.size (fun i e => by cases e; exact hlo)⟩
  rw [e1,e2,e3,e4,e5,e6,e7,e8,e9]
  exact (hg.block _ (fb_lt h.z) (hne h.z hT.1)).trans h.z
theorem OB.fin {n c : Int} {T : FT} (h : OB w u src Z now d) (hs : d.same T) (hT : T.now = now ∧ T.n = n ∧ T.c = c) : AnsT w (set6 u (w.heap.size + 1) (.slice d.ra d.rl d.rc) (.slice d.ea d.el d.ec) (.slice d.ta d.tl d.tc) (.int .i64 now) (.int .i64 n) (.int .i64 c)) T (.returned (d.out now n c)) ∧
    Below w.heap.size w (set6 u (w.heap.size + 1) (.slice d.ra d.rl d.rc) (.slice d.ea d.el d.ec) (.slice d.ta d.tl d.tc) (.int .i64 now) (.int .i64 n) (.int .i64 c)) := by
  obtain ⟨rfl,rfl,rfl⟩ := hT
  exact ⟨⟨d,rfl,h.own.box h.y out_ne (grown_set6o u (w.heap.size + 1) _ _ _ _ _ _),hs⟩,below_set6o h.bel (by omega) _ _ _ _ _ _⟩
end
theorem OB.tcell {t0 : TD} {k tb : Nat} {w u : World} {src : Obj} {Z : Nat} {now : Int} {d : FD} (h : OB w u src Z now d) (hta : d.ta = some ⟨tb,0,none⟩) (hk : d.ts[k]? = some t0) : k < d.tl ∧ u.cell? ⟨tb,k * 6,none⟩ = some (.int .i64 t0.p) ∧ u.cell? ⟨tb,k * 6 + 1,none⟩ = some (.int .i64 t0.e) ∧ u.cell? ⟨tb,k * 6 + 2,none⟩ = some (.int .i64 t0.s) ∧ u.cell? ⟨tb,k * 6 + 3,none⟩ = some (.int .i64 t0.u) ∧ u.cell? ⟨tb,k * 6 + 4,none⟩ = some (.slice t0.ra t0.rl t0.rc) ∧ u.cell? ⟨tb,k * 6 + 5,none⟩ = some (.slice t0.la t0.ll t0.lc) := by
  obtain ⟨hl,e⟩ := List.getElem?_eq_some_iff.1 hk
  have hlen : d.ts.length = d.tl := h.own.tfits
  have ho := h.own.t
  rw [hta] at ho
  have hc : ∀ j,j < 6 → u.cell? ⟨tb,k * 6 + j,none⟩ = t0.cells[j]? := fun j hj => by
    rw [ho.cellAt (k * 6 + j) (by omega),tdCells_at d.ts k j hl hj,e]
  exact ⟨by omega,by rw [← Nat.add_zero (k * 6)]; exact hc 0 (by omega),hc 1 (by omega),hc 2 (by omega),hc 3 (by omega),hc 4 (by omega),hc 5 (by omega)⟩
theorem OB.txn {t : TD} {k : Nat} {w u v : World} {src : Obj} {Z : Nat} {now : Int} {d : FD} {ts : List TD} (h : OB w u src Z now d) (hs : d.ts.map TD.strip = ts.map TD.strip) (hk : ts[k]? = some t) (hf : TFit v t) : ∃ tb t0,d.ta = some ⟨tb,0,none⟩ ∧ d.ts[k]? = some t0 ∧ t0.strip = t.strip ∧ TFit u t0 := by
  have e1 : (d.ts.map TD.strip)[k]? = (ts.map TD.strip)[k]? := by rw [hs]
  rw [List.getElem?_map,List.getElem?_map,hk] at e1
  obtain ⟨t0,ht0,hst⟩ := Option.map_eq_some_iff.1 e1
  obtain ⟨hl,e⟩ := List.getElem?_eq_some_iff.1 ht0
  have hlen : d.ts.length = d.tl := h.own.tfits
  obtain ⟨tb,htb⟩ := own_nform h.own.t (by omega)
  have ho := h.own.ti t0 (List.mem_of_getElem? ht0)
  have hst' := hst
  simp only [TD.strip,TD.mk.injEq] at hst'
  obtain ⟨k1,_,_,_,_,_,_,_,_,_,k2,k3⟩ := hst'
  have g1 := ho.1.1
  have g2 := ho.2.1.1
  simp only [List.length_map] at g1 g2
  have f1 := hf.r.nums.1
  have f2 := hf.l.nums.1
  have f3 := hf.rle
  have f4 := hf.lle
  rw [k2] at g1
  rw [k3] at g2
  exact ⟨tb,t0,htb,ht0,hst,own_tfit (t := t0) ho (by omega) (by omega) (by rw [k1]; exact hf.pw)⟩
end Go.Proofs.YtahccighonddaaaGreatDoor
namespace Go.Proofs.YtahccighonddaaaGreatDoor
open Go.RowKit Go.Maps
end Go.Proofs.YtahccighonddaaaGreatDoor
namespace Go.Proofs.YtahccighonddaaaGreatDoor
open Go.RowKit Go.Maps
set_option linter.unusedSimpArgs false
set_option linter.unusedVariables false
section
variable {rs : List RD} {es : List Int} {ts : List TD} {now : Int} {k : Nat} {t : TD}
end
end Go.Proofs.YtahccighonddaaaGreatDoor
namespace Go.Proofs.YtahccighonddaaaGreatDoor
open Go.RowKit Go.Maps
attribute [local go_sem ↓] Go.wp_at_zero Go.wp_at_succ
set_option linter.unusedSimpArgs false
set_option linter.unusedVariables false
section
variable {lo : Nat} {u v : World} {B M tb rb : Nat} {ta : Option Addr} {tl tc : Nat} {ra : Option Addr} {rl rc : Nat} {ea : Option Addr} {el ec : Nat} {now began puts : Int} {ts : List TD} {rs : List RD} {es : List Int} {m : Nat} {D : DataW Unit}
theorem WK.setR (h : WK lo u B M ta tl tc (some ⟨rb,0,none⟩) rl rc ea el ec now began puts ts rs es m D) (k : Nat) (hk : k < rs.length) (t : RD) (ht : t.fit u) (ho : ∀ X,Mine B M ta (some ⟨rb,0,none⟩) ea X → t.off X) :
    WK lo (set4 u rb (k * 4) (.int .i64 t.cap) (.int .i64 t.first) (.slice t.ra t.rl t.rc) (.slice t.ca t.cl t.cc)) B M ta tl tc (some ⟨rb,0,none⟩) rl rc ea el ec now began puts ts (rs.set k t) es m D := by
  have hg := grown_set4 u rb (k * 4) (.int .i64 t.cap) (.int .i64 t.first) (.slice t.ra t.rl t.rc) (.slice t.ca t.cl t.cc)
  have hmine : Mine B M ta (some ⟨rb,0,none⟩) ea rb := .inr (.inr (.inr (.inl rfl)))
  have hbt : B ≠ rb := fun e => own_ne h.r (e ▸ h.b) (by decide) rfl
  refine ⟨(hg.block _ (fb_lt h.b) (by simp; exact hbt)).trans h.b,h.m.kept hg (by have := own_ne_map h.r h.m; simp [blk?] at this; simp; omega),own_keep h.t hg (.inr (own_ne_own h.r h.t (by decide) rfl)),?_,own_keep h.e hg (.inr (own_ne_own h.r h.e (by decide) rfl)),fun q hq => (h.ft q hq).grown hg (h.ot q hq rb hmine),fun q hq => ?_,h.ot,fun q hq X hX => ?_,h.lb,h.lm⟩
  · rw [rdCells_set rs k hk t]
    exact own_set4 h.r k _ _ _ _
  · rcases List.mem_or_eq_of_mem_set hq with hq | rfl
    · exact (h.fr q hq).grown hg (h.or q hq rb hmine).1 (h.or q hq rb hmine).2
    · exact ht.grown hg (ho rb hmine).1 (ho rb hmine).2
  · rcases List.mem_or_eq_of_mem_set hq with hq | rfl
    · exact h.or q hq X hX
    · exact ho X hX
end
end Go.Proofs.YtahccighonddaaaGreatDoor
namespace Go.Proofs.YtahccighonddaaaGreatDoor
open Go.RowKit
set_option linter.unusedSimpArgs false
set_option linter.unusedVariables false
theorem flat_set_nodup2 {α : Type} {f : α → List Nat} {l : List α} {k : Nat} {t0 t : α} (h : (l.flatMap f).Nodup) (hk : l[k]? = some t0) (ht : (f t).Nodup) (hn : ∀ y ∈ f t,y ∈ f t0 ∨ y ∉ l.flatMap f) : ((l.set k t).flatMap f).Nodup := by
  induction l generalizing k with
  | nil => simp at hk
  | cons z l ih =>
    rw [List.flatMap_cons] at h hn
    obtain ⟨n1,n2,n3⟩ := List.nodup_append.1 h
    cases k with
    | zero =>
      simp only [List.getElem?_cons_zero,Option.some.injEq] at hk
      subst hk
      rw [List.set_cons_zero,List.flatMap_cons]
      refine List.nodup_append.2 ⟨ht,n2,fun x hx y hy e => ?_⟩
      subst e
      rcases hn x hx with h1 | h1
      · exact n3 x h1 x hy rfl
      · exact h1 (List.mem_append.2 (.inr hy))
    | succ k =>
      rw [List.getElem?_cons_succ] at hk
      rw [List.set_cons_succ,List.flatMap_cons]
      refine List.nodup_append.2 ⟨n1,ih n2 hk fun y hy => (hn y hy).imp id fun h1 h2 => h1 (List.mem_append.2 (.inr h2)),fun x hx y hy e => ?_⟩
      subst e
      rcases flat_set_mem hy with h1 | h1
      · exact n3 x hx x h1 rfl
      · rcases hn x h1 with h2 | h2
        · exact n3 x hx x (List.mem_flatMap.2 ⟨t0,List.mem_of_getElem? hk,h2⟩) rfl
        · exact h2 (List.mem_append.2 (.inl hx))
theorem nd_A2 {A A' B : List Nat} (h : (A ++ B).Nodup) (ha : A'.Nodup) (hn : ∀ x ∈ A',x ∈ A ∨ x ∉ A ++ B) : (A' ++ B).Nodup := by
  obtain ⟨n1,n2,n3⟩ := List.nodup_append.1 h
  refine List.nodup_append.2 ⟨ha,n2,fun x hx y hy e => ?_⟩
  subst e
  rcases hn x hx with h1 | h1
  · exact n3 x h1 x hy rfl
  · exact h1 (List.mem_append.2 (.inr hy))
theorem fab_setR2 {rs : List RD} {ts : List TD} {ea : Option Addr} {k : Nat} {t0 t : RD} (h : (fabBlks rs ts ea).Nodup) (hk : rs[k]? = some t0) (ht : t.blks.Nodup) (hn : ∀ y ∈ t.blks,y ∈ t0.blks ∨ y ∉ fabBlks rs ts ea) : (fabBlks (rs.set k t) ts ea).Nodup := by
  have n1 := (List.nodup_append.1 h).1
  refine nd_A2 h (flat_set_nodup2 n1 hk ht fun y hy => (hn y hy).imp id fun h1 h2 => h1 (List.mem_append.2 (.inl h2))) fun x hx => ?_
  rcases flat_set_mem hx with h1 | h1
  · exact .inl h1
  · rcases hn x h1 with h2 | h2
    · exact .inl (List.mem_flatMap.2 ⟨t0,List.mem_of_getElem? hk,h2⟩)
    · exact .inr h2
section
variable {d : FD} {w u v : World} {base tb k : Nat}
theorem FD.own.setR2 {t0 t : RD} (h : d.own u base) (hra : d.ra = some ⟨tb,0,none⟩) (hk : d.rs[k]? = some t0) (ht : t.own u base) (hn : ∀ y ∈ t.blks,y ∈ t0.blks ∨ y ∉ fabBlks d.rs d.ts d.ea) :
    (d.setR k t).own (set4 u tb (k * 4) (.int .i64 t.cap) (.int .i64 t.first) (.slice t.ra t.rl t.rc) (.slice t.ca t.cl t.cc)) base := by
  have hkl := (List.getElem?_eq_some_iff.1 hk).1
  have hb : blk? d.ra = some tb := by rw [hra]; rfl
  obtain ⟨C,hC⟩ := own_typed h.r hb
  have hg := grown_set4 u tb (k * 4) (.int .i64 t.cap) (.int .i64 t.first) (.slice t.ra t.rl t.rc) (.slice t.ca t.cl t.cc)
  refine ⟨?_,own_keep h.e hg (.inr (own_ne_own h.r h.e (by decide) hb)),own_keep h.t hg (.inr (own_ne_own h.r h.t (by decide) hb)),fun q hq => ?_,fun q hq => (h.ti q hq).keep hg fun X hX e => ?_,fab_setR2 h.nd hk ht.nd hn⟩
  · show World.ownsRow _ _ _ _ (.slice d.ra d.rl d.rc) d.rl (rdCells (d.rs.set k t))
    rw [rdCells_set d.rs k hkl t]
    have h1 := h.r
    rw [hra] at h1 ⊢
    exact own_set4 h1 k _ _ _ _
  · have hq0 : q.own u base := by
      rcases List.mem_or_eq_of_mem_set hq with hq | rfl
      · exact h.ri q hq
      · exact ht
    exact hq0.keep hg fun X hX e => by cases e; exact hq0.not hC (by decide) (by decide) hX
  · cases e; exact (h.ti q hq).not hC (by decide) hX
end
end Go.Proofs.YtahccighonddaaaGreatDoor
