import Derived.Test.YtahccighonddaaaGreatDoorRowEdit3
import Derived.Test.YtahccighonddaaaGreatDoorSeal
import Derived.Test.YtahccighonddaaaGreatDoorLawRing5
import Derived.Deep.RegionLaw
namespace Go.Proofs.YtahccighonddaaaGreatDoor
open Go.RowKit
attribute [local go_sem ↓] Go.wp_at_zero Go.wp_at_succ
theorem own_strV {w : World} {base n : Nat} {v : Value} {xs : List Value} (h : w.ownsRow base 9 1 v n xs) : ∃ a c,v = .slice a n c := by
  rcases h.2 with ⟨rfl,rfl⟩ | ⟨g,cap,cur,rfl,_⟩
  · exact ⟨none,0,rfl⟩
  · exact ⟨_,_,rfl⟩
theorem own_curV {w : World} {base n : Nat} {v : Value} {xs : List Value} (h : w.ownsRow base 96 2 v n xs) : ∃ a c,v = .slice a n c := by
  rcases h.2 with ⟨rfl,rfl⟩ | ⟨g,cap,cur,rfl,_⟩
  · exact ⟨none,0,rfl⟩
  · exact ⟨_,_,rfl⟩
structure Copying (w wr : World) (cap first : Int) (ra : Option Addr) (rl rc : Nat) (ca : Option Addr) (cl cc : Nat) (va : Option Addr) (k vc : Nat) (recs : List ByteArray) : Prop where
  b0 : wr.heap[w.heap.size]? = some (ringObj cap first ra rl rc ca cl cc)
  b1 : wr.heap[w.heap.size + 1]? = some (ringObj 0 0 none 0 0 none 0 0)
  b2 : wr.heap[w.heap.size + 1 + 1]? = some (ringObj cap first va k vc none 0 0)
  own : wr.ownsRow (w.heap.size + 3) 9 1 (.slice va k vc) k ((recs.take k).map Value.string)
  below : Below w.heap.size w wr
  size : w.heap.size + 3 ≤ wr.heap.size
theorem copy_start (w : World) (cap first : Int) (ra : Option Addr) (rl rc : Nat) (ca : Option Addr) (cl cc : Nat) (recs : List ByteArray) :
    Copying w (((w.alloc (ringObj cap first ra rl rc ca cl cc)).alloc (ringObj 0 0 none 0 0 none 0 0)).alloc (ringObj cap first none 0 0 none 0 0)) cap first ra rl rc ca cl cc none 0 0 recs := by
  refine ⟨?_,?_,?_,by simpa using World.ownsRow_nil _ _ _ _,(((Below.refl _ _).alloc (Nat.le_refl _) _).alloc (by simp) _).alloc (by simp; omega) _,by simp⟩
  · exact (Below.heap_alloc _ _ _ (by simp; omega)).trans ((Below.heap_alloc _ _ _ (by simp)).trans (heap_alloc_new _ _))
  · have h := heap_alloc_new (w.alloc (ringObj cap first ra rl rc ca cl cc)) (ringObj 0 0 none 0 0 none 0 0)
    rw [World.size_alloc] at h
    exact (Below.heap_alloc _ _ _ (by simp)).trans h
  · have h := heap_alloc_new ((w.alloc (ringObj cap first ra rl rc ca cl cc)).alloc (ringObj 0 0 none 0 0 none 0 0)) (ringObj cap first none 0 0 none 0 0)
    rw [World.size_alloc,World.size_alloc] at h
    exact h
theorem Copying.of {w wr w' : World} {cap first : Int} {ra : Option Addr} {rl rc : Nat} {ca : Option Addr} {cl cc : Nat} {va : Option Addr} {k vc : Nat} {recs : List ByteArray} (h : Copying w wr cap first ra rl rc ca cl cc va k vc recs) (hb : Below wr.heap.size wr w') : Copying w w' cap first ra rl rc ca cl cc va k vc recs := by
  have hz := h.size
  exact ⟨(hb.block _ (by omega)).trans h.b0,(hb.block _ (by omega)).trans h.b1,(hb.block _ (by omega)).trans h.b2,h.own.kept (below_grown hb) (by cases (Value.slice va k vc).ownBlock <;> simp),below_tr h.below hb,Nat.le_trans h.size hb.size⟩
theorem copy_stored {w w1 w2 : World} {cap first : Int} {ra : Option Addr} {rl rc : Nat} {ca : Option Addr} {cl cc : Nat} {va a1 : Option Addr} {k vc c1 : Nat} {recs : List ByteArray} {o : Obj} {V : ByteArray} (h : Copying w w1 cap first ra rl rc ca cl cc va k vc recs)
    (htk : (recs.take (k + 1)).map Value.string = (recs.take k).map Value.string ++ [.string V])
    (ho : w2.ownsRow (w.heap.size + 3) 9 1 (.slice a1 (k + 1) c1) (k + 1) ((recs.take k).map Value.string ++ [.string V])) (hg : (w1.alloc o).grownBy w2 (Value.slice va k vc).ownBlock) :
    w2.cell? ⟨w.heap.size + 1 + 1,2,none⟩ = some (.slice va k vc) ∧ w2.frozen? ⟨w.heap.size + 1 + 1,2,none⟩ = false ∧ Copying w (w2.setCell ⟨w.heap.size + 1 + 1,2,none⟩ (.slice a1 (k + 1) c1)) cap first ra rl rc ca cl cc a1 (k + 1) c1 recs := by
  have hz := h.size
  have hne : ∀ j,j < w.heap.size + 3 → some j ≠ (Value.slice va k vc).ownBlock := fun j hj e => by have := (h.own.lt j e.symm).1; omega
  have hbl : ∀ j,j < w.heap.size + 3 → w2.heap[j]? = w1.heap[j]? := fun j hj => (hg.block j (by simp; omega) (hne j hj)).trans (Below.heap_alloc _ _ _ (by omega))
  have b2 := (hbl (w.heap.size + 1 + 1) (by omega)).trans h.b2
  have hB : Below w.heap.size w w2 := (h.below.alloc h.below.size o).grown hg (by simp; omega) (fun j e => by have := (h.own.lt j e).1; omega)
  refine ⟨cell_of_block0 b2 2,unfrozen_of_block0 b2 2,?_,?_,?_,?_,?_,?_⟩
  · exact (Below.heap_setCell _ _ _ _ (show w.heap.size ≠ w.heap.size + 1 + 1 by omega)).trans ((hbl _ (by omega)).trans h.b0)
  · exact (Below.heap_setCell _ _ _ _ (show w.heap.size + 1 ≠ w.heap.size + 1 + 1 by omega)).trans ((hbl _ (by omega)).trans h.b1)
  · exact heap_setCell_same _ _ 2 _ _ _ b2
  · rw [htk]
    exact ownsRow_setCell_below ho (a := ⟨w.heap.size + 1 + 1,2,none⟩) (show w.heap.size + 1 + 1 < w.heap.size + 3 by omega) _
  · exact hB.setCell (p := ⟨w.heap.size + 1 + 1,2,none⟩) (show w.heap.size ≤ w.heap.size + 1 + 1 by omega) _
  · have := hg.size
    simp [World.setCell] at this ⊢
    omega
theorem copy_end {w wr w2 : World} {cap first : Int} {ra : Option Addr} {rl rc : Nat} {ca : Option Addr} {cl cc : Nat} {va a1 : Option Addr} {k vc c1 : Nat} {recs : List ByteArray} {ys : List Value} (h : Copying w wr cap first ra rl rc ca cl cc va k vc recs)
    (ho : w2.ownsRow wr.heap.size 96 2 (.slice a1 cl c1) cl ys) (hg : wr.grownBy w2 (Value.slice none 0 0).ownBlock) :
    (∀ o,w2.cell? ⟨w.heap.size,o,none⟩ = #[Value.int .i64 cap,.int .i64 first,.slice ra rl rc,.slice ca cl cc][o]?) ∧ (∀ o,w2.cell? ⟨w.heap.size + 1,o,none⟩ = #[Value.int .i64 0,.int .i64 0,.slice none 0 0,.slice none 0 0][o]?) ∧ (∀ o,w2.cell? ⟨w.heap.size + 1 + 1,o,none⟩ = #[Value.int .i64 cap,.int .i64 first,.slice va k vc,.slice none 0 0][o]?) ∧
    (∀ o,w2.frozen? ⟨w.heap.size + 1,o,none⟩ = false) ∧ (∀ o,w2.frozen? ⟨w.heap.size + 1 + 1,o,none⟩ = false) ∧
    (OwnRing (((((w2.setCell ⟨w.heap.size + 1 + 1,3,none⟩ (.slice a1 cl c1)).setCell ⟨w.heap.size + 1,0,none⟩ (.int .i64 cap)).setCell ⟨w.heap.size + 1,1,none⟩ (.int .i64 first)).setCell ⟨w.heap.size + 1,2,none⟩ (.slice va k vc)).setCell ⟨w.heap.size + 1,3,none⟩ (.slice a1 cl c1)) w.heap.size va k vc a1 cl c1 ((recs.take k).map Value.string) ys ∧
     Below w.heap.size w (((((w2.setCell ⟨w.heap.size + 1 + 1,3,none⟩ (.slice a1 cl c1)).setCell ⟨w.heap.size + 1,0,none⟩ (.int .i64 cap)).setCell ⟨w.heap.size + 1,1,none⟩ (.int .i64 first)).setCell ⟨w.heap.size + 1,2,none⟩ (.slice va k vc)).setCell ⟨w.heap.size + 1,3,none⟩ (.slice a1 cl c1))) := by
  have hz := h.size
  have hbl : ∀ j,j < w.heap.size + 3 → w2.heap[j]? = wr.heap[j]? := fun j hj => hg.block j (by omega) (by simp [Value.ownBlock])
  have b0 := (hbl w.heap.size (by omega)).trans h.b0
  have b1 := (hbl (w.heap.size + 1) (by omega)).trans h.b1
  have b2 := (hbl (w.heap.size + 1 + 1) (by omega)).trans h.b2
  have hB : Below w.heap.size w w2 := h.below.grown hg (by omega) (fun j e => by simp [Value.ownBlock] at e)
  have hs : w2.ownsRow (w.heap.size + 3) 9 1 (.slice va k vc) k ((recs.take k).map Value.string) := h.own.kept hg (by cases (Value.slice va k vc).ownBlock <;> simp [Value.ownBlock])
  have k2 : w.heap.size ≤ w.heap.size + 1 + 1 := by omega
  have k3 : w.heap.size ≤ w.heap.size + 1 := by omega
  have q2 : w.heap.size + 1 + 1 < w.heap.size + 3 := by omega
  have q1 : w.heap.size + 1 < w.heap.size + 3 := by omega
  have r2 : w.heap.size + 1 + 1 < wr.heap.size := by omega
  have r1 : w.heap.size + 1 < wr.heap.size := by omega
  refine ⟨fun o => cell_of_block0 b0 o,fun o => cell_of_block0 b1 o,fun o => cell_of_block0 b2 o,fun o => unfrozen_of_block0 b1 o,fun o => unfrozen_of_block0 b2 o,⟨?_,?_⟩,?_⟩
  · exact (ownsRow_setCell_below (ownsRow_setCell_below (ownsRow_setCell_below (ownsRow_setCell_below (ownsRow_setCell_below hs (a := ⟨w.heap.size + 1 + 1,3,none⟩) q2 _) (a := ⟨w.heap.size + 1,0,none⟩) q1 _) (a := ⟨w.heap.size + 1,1,none⟩) q1 _) (a := ⟨w.heap.size + 1,2,none⟩) q1 _) (a := ⟨w.heap.size + 1,3,none⟩) q1 _).mono (by omega)
  · exact (ownsRow_setCell_below (ownsRow_setCell_below (ownsRow_setCell_below (ownsRow_setCell_below (ownsRow_setCell_below ho (a := ⟨w.heap.size + 1 + 1,3,none⟩) r2 _) (a := ⟨w.heap.size + 1,0,none⟩) r1 _) (a := ⟨w.heap.size + 1,1,none⟩) r1 _) (a := ⟨w.heap.size + 1,2,none⟩) r1 _) (a := ⟨w.heap.size + 1,3,none⟩) r1 _).mono (by omega)
  · exact ((((hB.setCell (p := ⟨w.heap.size + 1 + 1,3,none⟩) k2 _).setCell (p := ⟨w.heap.size + 1,0,none⟩) k3 _).setCell (p := ⟨w.heap.size + 1,1,none⟩) k3 _).setCell (p := ⟨w.heap.size + 1,2,none⟩) k3 _).setCell (p := ⟨w.heap.size + 1,3,none⟩) k3 _
set_option maxRecDepth 100000 in
set_option maxHeartbeats 4000000 in
theorem impl_copyRing (cap first : Int) (ra : Option Addr) (rl rc : Nat) (ca : Option Addr) (cl cc : Nat) (recs : List ByteArray) (curs : List (Int × Int)) (w : World) (hr : StrIn w ra rl rc recs) (hc : CurIn w ca cl cc curs) (hs : ∀ s ∈ recs,s.size ≤ 1048576) (hrl : rl ≤ 1048577) (hcl : cl ≤ 1048577) :
    Calls Tryz.prog 112 #[ringV cap first ra rl rc ca cl cc] w fun e w' => ∃ a q c p,e = .returned (ringV cap first a rl q c cl p) ∧ OwnRing w' w.heap.size a rl q c cl p (recs.map Value.string) (curCells curs) ∧ Below w.heap.size w w' := by
  obtain ⟨i0,hi0,hz0,hz1,hz2⟩ := info_parts info_str
  obtain ⟨j0,hj0,hy0,hy1,hy2⟩ := info_parts info_cur
  have HR : Hid (StrIn w ra rl rc recs) := hr
  have HC : Hid (CurIn w ca cl cc curs) := hc
  have HS : Hid (∀ s ∈ recs,s.size ≤ 1048576) := hs
  have HL : Hid (recs.length = rl) := hr.strs.1
  have HLC : Hid (curs.length = cl) := hc.curs.1
  clear hr hc hs
  go_enter Tryz.func112,Tryz.ntmps112
  go_wp2
  go_loopw [14] (fun i wr => ∃ (k vc : Nat) (va : Option Addr),k ≤ rl ∧ i = .int .i64 k ∧ Hid (Copying w wr cap first ra rl rc ca cl cc va k vc recs)) (fun i _ => rl - (intOf i).toNat)
  case atStart =>
    exact ⟨0,0,none,by omega,rfl,copy_start w cap first ra rl rc ca cl cc recs⟩
  case round =>
    obtain ⟨k,vc,va,hk,rfl,hcp⟩ := hrel
    by_cases hlt : k < rl
    · have hkl : k < recs.length := by rw [HL.out]; exact hlt
      obtain ⟨bb,off,e,hcc⟩ := (strs_below HR.out.strs hcp.out.below).2 k hkl
      subst e
      have hV : recs[k].size ≤ 1048576 := HS.out _ (List.getElem_mem hkl)
      have htk : (recs.take (k + 1)).map Value.string = (recs.take k).map Value.string ++ [.string recs[k]] := by rw [List.take_succ_eq_append_getElem hkl,List.map_append]; rfl
      obtain ⟨V,eV⟩ : ∃ V,recs[k] = V := ⟨_,rfl⟩
      rw [eV] at hcc hV htk
      have HTK : Hid _ := htk
      have hsz := hcp.out.size
      have g2 : wr.cell? ⟨w.heap.size + 1 + 1,2,none⟩ = some (.slice va k vc) := cell_of_block0 hcp.out.b2 2
      clear eV htk
      go_wp2
      go_region_law (first
        | (go_simp; go_at_call 167; refine (impl_copyText V _ hV).mono ?_; rintro e w1 ⟨rfl,hb1⟩; have hcp1 : Hid (Copying w w1 cap first (some ⟨bb,off,none⟩) rl rc ca cl cc va k vc recs) := hcp.out.of (below_tr ((Below.refl _ _).drew) hb1); have hsz := hcp1.out.size; have h22 : w.heap.size + 1 + 1 < w1.heap.size := (by omega); have g2 : w1.cell? ⟨w.heap.size + 1 + 1,2,none⟩ = some (.slice va k vc) := cell_of_block0 hcp1.out.b2 2; clear hb1)
        | (refine step_append_own_any (by rfl) _ _ _ (by rfl) (w.heap.size + 3) 9 i0 _ 1 16 Tryz.underlying43 hi0 hz0 hz1 hz2 (by rfl) (by omega) (.slice va k vc) k _ (by rfl) (hcp1.out.own.alloc _) (some ⟨w1.heap.size,0,none⟩) 1 1 [.string V] (by rfl) (by rfl) (fun e => by cases e) (fun ad e => by cases e; exact cell_one_new _ _ _) (by simp [Value.oneCell']) (by unfold maxLen; omega) (by omega) (by simp; omega) ?_; intro v1 w2 ho2 hg2; obtain ⟨a1,c1,rfl⟩ := own_strV ho2; have hst := copy_stored hcp1.out HTK.out ho2 hg2; have g3 := hst.1; have f3 := hst.2.1; have HST : Hid _ := hst.2.2; clear hg2 ho2 hst))
      all_goals
        go_wp2
        exact ⟨⟨k + 1,c1,a1,by omega,by go_num,HST.out⟩,by simp [intOf]; omega⟩
    · obtain rfl : k = rl := by omega
      have hcp' := hcp.out
      have hsz := hcp'.size
      have HTK : Hid ((recs.take k).map Value.string = recs.map Value.string) := show _ = _ by rw [List.take_of_length_le (by rw [HL.out]; exact Nat.le_refl _)]
      have e0 : ∀ o,wr.cell? ⟨w.heap.size,o,none⟩ = _ := fun o => cell_of_block0 hcp'.b0 o
      have e1 : ∀ o,wr.cell? ⟨w.heap.size + 1,o,none⟩ = _ := fun o => cell_of_block0 hcp'.b1 o
      have e2 : ∀ o,wr.cell? ⟨w.heap.size + 1 + 1,o,none⟩ = _ := fun o => cell_of_block0 hcp'.b2 o
      clear hcp'
      go_wp2_with (at_builtin; refine wpList_append_own_any (by rfl) _ _ _ (by rfl) wr.heap.size 96 j0 _ 2 16 Tryz.underlying61 hj0 hy0 hy1 hy2 (by rfl) (by omega) (.slice none 0 0) 0 [] (by rfl) (World.ownsRow_nil _ _ _ _) ca cl cc (curCells curs) (by rfl) (by rw [curCells_length,HLC.out]) HC.out.nil (curs_news (curs_below HC.out.curs hcp.out.below)) (curCells_one _) (by unfold maxLen; omega) (by omega) (Nat.le_refl _) ?_; intro v1 w2 ho2 hg2; simp only [Nat.zero_add,List.nil_append] at ho2; obtain ⟨a1,c1,rfl⟩ := own_curV ho2; obtain ⟨g0,g1,g2,f1,f2,hfin⟩ := copy_end hcp.out ho2 hg2; have HF : Hid _ := hfin; clear hfin ho2 hg2)
      obtain ⟨hx,hy⟩ := HF.out
      refine bodyPost_ret (v := ringV cap first va k vc a1 cl c1) (by simp [results,Tryz.results112,go_sem,g1]) rfl ⟨va,vc,a1,c1,rfl,?_,hy⟩
      rw [← HTK.out]
      exact hx
end Go.Proofs.YtahccighonddaaaGreatDoor
