import Derived.Test.YtahccighonddaaaGreatDoorFabEnds
import Derived.Maps.Own
import Derived.Maps.OwnOps
import Derived.Maps.OwnSet
import Derived.Maps.Views
import Derived.WalkArith
import Derived.Test.YtahccighonddaaaGreatDoorSpecHear2
import Derived.Test.YtahccighonddaaaGreatDoorAppendMore
import Derived.Test.YtahccighonddaaaGreatDoorRingCopy
import Derived.Test.YtahccighonddaaaGreatDoorTxnWithout
import Derived.Test.YtahccighonddaaaGreatDoorNrm
import Derived.Deep.RegionHeld3
import Derived.Deep.DrawnRows
namespace Go.Proofs.YtahccighonddaaaGreatDoor
open Go.RowKit Go.Maps
theorem mapKey : Keyed Tryz.prog 2 := int_keyed Tryz.underlying2
theorem mapZero (w : World) : (zeroValue 3).run Tryz.prog w = .ok (.int .i64 0) w := by kernel_rfl
theorem wf64 {a : Int} (h : -9223372036854775808 ≤ a ∧ a ≤ 9223372036854775807) : (Lit.int .i64 a).wf = true := by
  exact WalkArith.wf_i64 h
def lastAt (ts : List TD) (p : Int) : Nat → Nat
  | 0 => 0
  | k + 1 => match ts[k]? with | some t => if t.s = 1 ∧ t.p = p then k else lastAt ts p k | none => lastAt ts p k
def openD (ts : List TD) : Nat → DataW Unit
  | 0 => .map []
  | k + 1 => match ts[k]? with | some t => if t.s = 1 then (openD ts k).put (.int .i64 t.p) (.lit (.int .i64 (k : Int))) else openD ts k | none => openD ts k
theorem openD_isMap (ts : List TD) (k : Nat) : IsMap (openD ts k) := by
  induction k with
  | zero => exact ⟨[],rfl⟩
  | succ k ih =>
    unfold openD
    split
    · split
      · obtain ⟨es,e⟩ := ih
        rw [e]
        exact ⟨_,rfl⟩
      · exact ih
    · exact ih
theorem openD_at (ts : List TD) (p : Int) (k : Nat) : (openD ts k).atKey (.int .i64 p) (.lit (.int .i64 0)) = .lit (.int .i64 (lastAt ts p k : Int)) := by
  induction k with
  | zero => rfl
  | succ k ih =>
    unfold openD lastAt
    cases h : ts[k]? with
    | none => exact ih
    | some t =>
      simp only
      by_cases hs : t.s = 1
      · rw [if_pos hs]
        by_cases hp : t.p = p
        · subst hp
          rw [if_pos ⟨hs,rfl⟩,atKey_put_same (openD_isMap ts k) (by simp [WideAt.IsKeyLit])]
        · rw [if_neg (fun hh => hp hh.2),atKey_put_other (by intro e; cases e; exact hp rfl)]
          exact ih
      · rw [if_neg hs,if_neg (fun hh => hs hh.1)]
        exact ih
theorem lastAt_le (ts : List TD) (p : Int) (k : Nat) : lastAt ts p k ≤ k := by
  induction k with
  | zero => exact Nat.le_refl _
  | succ k ih =>
    unfold lastAt
    split
    · split <;> omega
    · omega
theorem lastAt_ge {ts : List TD} {p : Int} {j : Nat} {t : TD} (hj : ts[j]? = some t) (hs : t.s = 1) (hp : t.p = p) (k : Nat) (hk : j < k) : j ≤ lastAt ts p k := by
  induction k with
  | zero => omega
  | succ k ih =>
    unfold lastAt
    by_cases e : j = k
    · subst e
      rw [hj]
      simp [hs,hp]
    · split
      · split
        · omega
        · exact ih (by omega)
      · exact ih (by omega)
theorem lastAt_is {ts : List TD} {p : Int} {j : Nat} {t : TD} (hj : ts[j]? = some t) (hs : t.s = 1) (hp : t.p = p) (k : Nat) (hk : j < k) : ∃ u,ts[lastAt ts p k]? = some u ∧ u.s = 1 ∧ u.p = p := by
  induction k with
  | zero => omega
  | succ k ih =>
    unfold lastAt
    by_cases e : j = k
    · subst e
      rw [hj]
      simp only
      rw [if_pos ⟨hs,hp⟩]
      exact ⟨t,hj,hs,hp⟩
    · cases h : ts[k]? with
      | none => exact ih (by omega)
      | some u =>
        simp only
        by_cases hh : u.s = 1 ∧ u.p = p
        · rw [if_pos hh]; exact ⟨u,h,hh.1,hh.2⟩
        · rw [if_neg hh]; exact ih (by omega)
end Go.Proofs.YtahccighonddaaaGreatDoor
namespace Go.Proofs.YtahccighonddaaaGreatDoor
open Go.RowKit Go.Maps
attribute [local go_sem ↓] Go.wp_at_zero Go.wp_at_succ
theorem tdCells_one (l : List TD) : ∀ u ∈ tdCells l,u.oneCell' = true := by
  intro u hu
  obtain ⟨t,_,ht⟩ := List.mem_flatMap.1 hu
  simp [TD.cells] at ht
  rcases ht with rfl | rfl | rfl | rfl | rfl | rfl <;> rfl
theorem rdCells_one (l : List RD) : ∀ u ∈ rdCells l,u.oneCell' = true := by
  intro u hu
  obtain ⟨t,_,ht⟩ := List.mem_flatMap.1 hu
  simp [RD.cells] at ht
  rcases ht with rfl | rfl | rfl | rfl <;> rfl
theorem txs_news {Q : World → TD → Prop} {w : World} {a : Option Addr} {n : Nat} {l : List TD} (h : TxsG Q w a n l) : ∀ x,a = some x → ∀ k u,(tdCells l)[k]? = some u → w.cell? (x.add k) = some u := fun x e k u hu => by
  have hk : k < l.length * 6 := by have := (List.getElem?_eq_some_iff.1 hu).1; rwa [tdCells_length] at this
  have hi : k / 6 < l.length := by omega
  obtain ⟨b,off,e',h0,h1,h2,h3,h4,h5,_⟩ := h.2 (k / 6) hi
  rw [e] at e'
  cases e'
  have hat := tdCells_at l (k / 6) (k % 6) hi (by omega)
  rw [show k / 6 * 6 + k % 6 = k by omega,hu] at hat
  rw [Addr.add_lit]
  have hm : k % 6 < 6 := by omega
  rcases (by omega : k % 6 = 0 ∨ k % 6 = 1 ∨ k % 6 = 2 ∨ k % 6 = 3 ∨ k % 6 = 4 ∨ k % 6 = 5) with hh | hh | hh | hh | hh | hh <;> rw [hh] at hat <;> simp [TD.cells] at hat <;> rw [hat]
  · rw [show off + k = off + k / 6 * 6 by omega]; exact h0
  · rw [show off + k = off + k / 6 * 6 + 1 by omega]; exact h1
  · rw [show off + k = off + k / 6 * 6 + 2 by omega]; exact h2
  · rw [show off + k = off + k / 6 * 6 + 3 by omega]; exact h3
  · rw [show off + k = off + k / 6 * 6 + 4 by omega]; exact h4
  · rw [show off + k = off + k / 6 * 6 + 5 by omega]; exact h5
theorem rngs_news {Q : World → RD → Prop} {w : World} {a : Option Addr} {n : Nat} {l : List RD} (h : RngsG Q w a n l) : ∀ x,a = some x → ∀ k u,(rdCells l)[k]? = some u → w.cell? (x.add k) = some u := fun x e k u hu => by
  have hk : k < l.length * 4 := by have := (List.getElem?_eq_some_iff.1 hu).1; rwa [rdCells_length] at this
  have hi : k / 4 < l.length := by omega
  obtain ⟨b,off,e',h0,h1,h2,h3,_⟩ := h.2 (k / 4) hi
  rw [e] at e'
  cases e'
  have hat := rdCells_at l (k / 4) (k % 4) hi (by omega)
  rw [show k / 4 * 4 + k % 4 = k by omega,hu] at hat
  rw [Addr.add_lit]
  rcases (by omega : k % 4 = 0 ∨ k % 4 = 1 ∨ k % 4 = 2 ∨ k % 4 = 3) with hh | hh | hh | hh <;> rw [hh] at hat <;> simp [RD.cells] at hat <;> rw [hat]
  · rw [show off + k = off + k / 4 * 4 by omega]; exact h0
  · rw [show off + k = off + k / 4 * 4 + 1 by omega]; exact h1
  · rw [show off + k = off + k / 4 * 4 + 2 by omega]; exact h2
  · rw [show off + k = off + k / 4 * 4 + 3 by omega]; exact h3
theorem txs_fits {w : World} {a : Option Addr} {n : Nat} {l : List TD} (h : Txs w a n l) : ∀ t ∈ l,TFit w t := fun t ht => by
  obtain ⟨i,hi,rfl⟩ := List.getElem_of_mem ht
  obtain ⟨_,_,_,_,_,_,_,_,_,hf⟩ := h.2 i hi
  exact hf
theorem rngs_fits {w : World} {a : Option Addr} {n : Nat} {l : List RD} (h : Rngs w a n l) : ∀ r ∈ l,r.fit w := fun t ht => by
  obtain ⟨i,hi,rfl⟩ := List.getElem_of_mem ht
  obtain ⟨_,_,_,_,_,_,_,hf⟩ := h.2 i hi
  exact hf
theorem own_txV {w : World} {base e n : Nat} {v : Value} {xs : List Value} (h : w.ownsRow base e 6 v n xs) : ∃ a c,v = .slice a n c := by
  rcases h.2 with ⟨rfl,rfl⟩ | ⟨g,cap,cur,rfl,_⟩
  · exact ⟨none,0,rfl⟩
  · exact ⟨_,_,rfl⟩
theorem own_rgV {w : World} {base e n : Nat} {v : Value} {xs : List Value} (h : w.ownsRow base e 4 v n xs) : ∃ a c,v = .slice a n c := by
  rcases h.2 with ⟨rfl,rfl⟩ | ⟨g,cap,cur,rfl,_⟩
  · exact ⟨none,0,rfl⟩
  · exact ⟨_,_,rfl⟩
end Go.Proofs.YtahccighonddaaaGreatDoor
namespace Go.Proofs.YtahccighonddaaaGreatDoor
open Go.RowKit Go.Maps
attribute [local go_sem ↓] Go.wp_at_zero Go.wp_at_succ
abbrev txwO (a : Option Addr) (n c : Nat) (m : Option Nat) : Obj := .cells #[.slice a n c,.map m] 128 (0,0)
structure TX (w v : World) (a : Option Addr) (n c : Nat) (ts : List TD) (j : Nat) : Prop where
  res : v.heap[w.heap.size]? = some (txwO none 0 0 none)
  box : v.heap[w.heap.size + 1 + 1]? = some (txwO a n c (some (w.heap.size + 1)))
  map : v.ownsMap Tryz.prog 2 (plainElem Tryz.prog 3) (w.heap.size + 1) j (openD ts j)
  own : v.ownsRow (w.heap.size + 3) 59 6 (.slice a n c) n (tdCells ts)
  fit : ∀ t ∈ ts,TFit v t
  bel : Below w.heap.size w v
theorem TX.txs {w u : World} {a : Option Addr} {n c : Nat} {ts : List TD} {j : Nat} (h : TX w u a n c ts j) : Txs u a n ts := txs_own (Q := fun w t => TFit w t) h.own h.fit
theorem town_keep {w w' : World} {base size n b : Nat} {e : TypeId} {v : Value} {xs : List Value} (h : w.ownsRow base e size v n xs) (hg : w.grownBy w' (some b)) (hb : b < base) : w'.ownsRow base e size v n xs :=
  h.kept hg (.inr (fun e => by have := (h.lt _ e).1; omega))
theorem town_below {w w' : World} {base size n : Nat} {e : TypeId} {v : Value} {xs : List Value} (h : w.ownsRow base e size v n xs) (hb : Below w.heap.size w w') : w'.ownsRow base e size v n xs :=
  h.kept (tbelow_grown hb) (by by_cases hh : v.ownBlock = none; exact .inl hh; exact .inr hh)
theorem TX.under {w u v : World} {a : Option Addr} {n c : Nat} {ts : List TD} {j : Nat} (h : TX w u a n c ts j) (hb : Below u.heap.size u v) : TX w v a n c ts j :=
  ⟨(hb.block _ (fb_lt h.res)).trans h.res,(hb.block _ (fb_lt h.box)).trans h.box,h.map.kept (tbelow_grown hb) (by simp),town_below h.own hb,fun t ht => (h.fit t ht).below hb,below_tr h.bel hb⟩
theorem TX.skip {w u : World} {a : Option Addr} {n c : Nat} {ts : List TD} {j : Nat} {t : TD} (h : TX w u a n c ts j) (hj : ts[j]? = some t) (hs : t.s ≠ 1) : TX w u a n c ts (j + 1) :=
  ⟨h.res,h.box,by unfold openD; rw [hj]; simp only; rw [if_neg hs]; exact h.map.mono (Nat.le_succ _),h.own,h.fit,h.bel⟩
theorem TX.put {w u v : World} {a : Option Addr} {n c : Nat} {ts : List TD} {j : Nat} {t : TD} (h : TX w u a n c ts j) (hj : ts[j]? = some t) (hs : t.s = 1) (hl : ∀ t ∈ ts,t.off (w.heap.size + 1))
    (hm : v.ownsMap Tryz.prog 2 (plainElem Tryz.prog 3) (w.heap.size + 1) (j + 1) ((openD ts j).put (.int .i64 t.p) (.lit (.int .i64 (j : Int))))) (hg : u.grownBy v (some (w.heap.size + 1))) : TX w v a n c ts (j + 1) :=
  ⟨(hg.block _ (fb_lt h.res) (by simp)).trans h.res,(hg.block _ (fb_lt h.box) (by simp)).trans h.box,by unfold openD; rw [hj]; simp only; rw [if_pos hs]; exact hm,town_keep h.own hg (by omega),fun t ht => (h.fit t ht).grown hg (hl t ht),h.bel.grown hg h.bel.size (fun k e => by cases e; exact Nat.le_succ _)⟩
theorem TX.start {w w1 : World} {a : Option Addr} {n c : Nat} {ts : List TD} {o0 : Obj} (h0 : o0 = txwO none 0 0 none)
    (ho : w1.ownsRow (w.heap.size + 3) 59 6 (.slice a n c) n (tdCells ts)) (hg : (((w.alloc o0).alloc (.map #[] 0)).alloc (txwO none 0 0 (some (w.heap.size + 1)))).grownBy w1 none) (hf : ∀ t ∈ ts,TFit w t) :
    TX w (w1.setCell ⟨w.heap.size + 1 + 1,0,none⟩ (.slice a n c)) a n c ts 0 := by
  subst h0
  have hB0 : Below w.heap.size w (((w.alloc (txwO none 0 0 none)).alloc (.map #[] 0)).alloc (txwO none 0 0 (some (w.heap.size + 1)))) := (((Below.refl _ _).alloc (Nat.le_refl _) _).alloc (by simp) _).alloc (by simp; omega) _
  have hB1 : Below w.heap.size w w1 := hB0.grown hg hB0.size (fun k e => by cases e)
  have b0 : w1.heap[w.heap.size]? = some (txwO none 0 0 none) := (hg.block _ (by simp; omega) (by simp)).trans ((Below.heap_alloc _ _ _ (by simp; omega)).trans ((Below.heap_alloc _ _ _ (by simp)).trans (heap_alloc_new _ _)))
  have b2 : w1.heap[w.heap.size + 1 + 1]? = some (txwO none 0 0 (some (w.heap.size + 1))) := by
    have h := heap_alloc_new ((w.alloc (txwO none 0 0 none)).alloc (.map #[] 0)) (txwO none 0 0 (some (w.heap.size + 1)))
    simp only [World.size_alloc] at h
    exact (hg.block _ (by simp) (by simp)).trans h
  have hm : w1.ownsMap Tryz.prog 2 (plainElem (H := Unit) Tryz.prog 3) (w.heap.size + 1) 0 (.map []) := by
    have h := World.ownsMap_made (w.alloc (txwO none 0 0 none)) Tryz.prog 2 (plainElem (H := Unit) Tryz.prog 3)
    simp only [World.size_alloc] at h
    exact (h.alloc _).kept hg (by simp)
  have hS := grown_setc w1 (w.heap.size + 1 + 1) 0 (.slice a n c)
  refine ⟨(hS.block _ (fb_lt b0) (by simp; omega)).trans b0,?_,hm.kept hS (by simp),?_,fun t ht => (hf t ht).below (hB1.setCell (p := ⟨w.heap.size + 1 + 1,0,none⟩) (by show w.heap.size ≤ w.heap.size + 1 + 1; omega) _),hB1.setCell (p := ⟨w.heap.size + 1 + 1,0,none⟩) (by show w.heap.size ≤ w.heap.size + 1 + 1; omega) _⟩
  · exact heap_setCell_same w1 (w.heap.size + 1 + 1) 0 _ _ (.slice a n c) b2
  · exact ownsRow_setCell_below ho (a := ⟨w.heap.size + 1 + 1,0,none⟩) (by show w.heap.size + 1 + 1 < w.heap.size + 3; omega) _
theorem tx_b2 {w w1 : World} {o0 : Obj} (hg : (((w.alloc o0).alloc (.map #[] 0)).alloc (txwO none 0 0 (some (w.heap.size + 1)))).grownBy w1 none) : w1.heap[w.heap.size + 1 + 1]? = some (txwO none 0 0 (some (w.heap.size + 1))) := by
  have h := heap_alloc_new ((w.alloc o0).alloc (.map #[] 0)) (txwO none 0 0 (some (w.heap.size + 1)))
  simp only [World.size_alloc] at h
  exact (hg.block _ (by simp) (by simp)).trans h
set_option maxRecDepth 100000 in
set_option maxHeartbeats 4000000 in
theorem impl_txnsOf (ta : Option Addr) (tl tc : Nat) (ts : List TD) (w : World) (hT : Txs w ta tl ts) (htl : tl ≤ 12) (hnil : ta = none → tl = 0 ∧ tc = 0) :
    Calls Tryz.prog 132 #[.slice ta tl tc] w fun x w' => ∃ a c,x = .returned (.agg #[.slice a tl c,.map (some (w.heap.size + 1))]) ∧ Hid (w'.ownsRow (w.heap.size + 3) 59 6 (.slice a tl c) tl (tdCells ts)) ∧ Hid (w'.ownsMap Tryz.prog 2 (plainElem Tryz.prog 3) (w.heap.size + 1) tl (openD ts tl)) ∧ Below w.heap.size w w' := by
  obtain ⟨i0,hi0,hz0,hz1,hz2⟩ := info_parts info_txnF
  have hmm := @run_makeMap Tryz.prog
  have HT : Hid (Txs w ta tl ts) := hT
  have HL : Hid (ts.length = tl) := hT.1
  have HF : Hid (∀ t ∈ ts,TFit w t) := txs_fits hT
  have HO : Hid (∀ t ∈ ts,t.off (w.heap.size + 1)) := fun t ht => ⟨fun x e he => by have := (HF.out t ht).r.lt x e; omega,fun x e he => by have := (HF.out t ht).l.lt x e; omega⟩
  clear hT
  go_enter Tryz.func132,Tryz.ntmps132
  go_wp2_with (first | (at_builtin; refine wpList_append_own_any (by rfl) _ _ 29 (by rfl) (w.heap.size + 3) 59 i0 _ 6 80 Tryz.underlying29 hi0 hz0 hz1 hz2 (by rfl) (by omega) (.slice none 0 0) 0 [] (by rfl) (World.ownsRow_nil _ _ _ _) ta tl tc (tdCells ts) (by rfl) (by rw [tdCells_length,HL.out]) hnil (txs_news (txs_below HT.out ((((Below.refl _ _).alloc (Nat.le_refl _) _).alloc (by simp) _).alloc (by simp; omega) _))) (tdCells_one _) (by unfold maxLen; omega) (by omega) (by simp) ?_; intro v1 w2 ho2 hg2; simp only [Nat.zero_add,List.nil_append] at ho2; obtain ⟨a1,c1,rfl⟩ := own_txV ho2; have HX : Hid (TX w (w2.setCell ⟨w.heap.size + 1 + 1,0,none⟩ (.slice a1 tl c1)) a1 tl c1 ts 0) := TX.start rfl ho2 hg2 HF.out; have c2 := fun o => fb_cell (tx_b2 hg2) o; have f2 := fun o => unfrozen_of_block0 (tx_b2 hg2) o; clear ho2 hg2) | go_in)
  obtain ⟨W,hW⟩ : ∃ W,w2.setCell ⟨w.heap.size + 1 + 1,0,none⟩ (.slice a1 tl c1) = W := ⟨_,rfl⟩
  rw [hW] at HX ⊢
  clear hW c2 f2
  go_loopw [16] (fun i wr => ∃ j : Nat,j ≤ tl ∧ i = .int .i64 j ∧ Hid (TX w wr a1 tl c1 ts j)) (fun i _ => tl - (intOf i).toNat)
  case atStart => exact ⟨0,by omega,rfl,HX.out⟩
  case round =>
    obtain ⟨j,hj,rfl,hw⟩ := hrel
    clear HX
    by_cases hlt : j < tl
    · obtain ⟨b,off,t,hta,e1,g0,g1,g2,g3,g4,g5,hf⟩ := txsG_at keeps_tfit hw.out.txs (Below.refl _ _) hlt
      subst hta
      have HJ : Hid (ts[j]? = some t) := e1
      have hpw := hf.out.pw
      have H1 : Hid (TX w (wr.alloc t.obj) (some ⟨b,off,none⟩) tl c1 ts j) := hw.out.under (fbelow_new _ _)
      have hkey : keyOf Tryz.prog 2 (.int .i64 t.p) = some (.int .i64 t.p) := keyOf_int_mk Tryz.underlying2 (wf64 hpw)
      clear hf e1 hw
      by_cases hs : t.s = 1
      · have hs' : (t.s == 1) = true := by rw [beq_iff_eq]; exact hs
        have HS : Hid (t.s = 1) := hs
        clear hs
        have cb := fun o => fb_cell H1.out.box o
        go_wp2_with (first | (at_mapUpdate; refine wpList_mapUpdate_own _ rfl _ _ _ 126 rfl 2 3 mapKey Tryz.underlying126 _ (w.heap.size + 1) j _ rfl H1.out.map (by unfold maxLen; omega) _ _ _ rfl rfl hkey _ [] (plainElem_int Tryz.underlying3 (wf64 (by omega))) ?_; intro w3 hown3 hgrow3; have H3 : Hid (TX w w3 (some ⟨b,off,none⟩) tl c1 ts (j + 1)) := H1.out.put HJ.out HS.out HO.out hown3 hgrow3; clear hown3 hgrow3) | go_in)
        exact ⟨⟨j + 1,by omega,by go_num,H3.out⟩,by simp [intOf]; omega⟩
      · have hs' : (t.s == 1) = false := by rw [beq_eq_false_iff_ne]; exact hs
        have H3 : Hid (TX w (wr.alloc t.obj) (some ⟨b,off,none⟩) tl c1 ts (j + 1)) := H1.out.skip HJ.out hs
        go_wp2
        exact ⟨⟨j + 1,by omega,by go_num,H3.out⟩,by simp [intOf]; omega⟩
    · obtain rfl : j = tl := by omega
      have cb := fun o => fb_cell hw.out.box o
      have cr := fun o => fb_cell hw.out.res o
      have fr := fun o => unfrozen_of_block0 hw.out.res o
      go_wp2
      have hg1 := grown_setc wr w.heap.size 0 (.slice a1 j c1)
      have hg2 := grown_setc (wr.setCell ⟨w.heap.size,0,none⟩ (.slice a1 j c1)) w.heap.size 1 (.map (some (w.heap.size + 1)))
      exact bodyPost_ret (v := .agg #[.slice a1 j c1,.map (some (w.heap.size + 1))]) (by simp [results,Tryz.results132,go_sem,cr]) rfl ⟨a1,c1,rfl,town_keep (town_keep hw.out.own hg1 (by omega)) hg2 (by omega),(hw.out.map.kept hg1 (by simp)).kept hg2 (by simp),(hw.out.bel.setCell (p := ⟨w.heap.size,0,none⟩) (Nat.le_refl _) _).setCell (p := ⟨w.heap.size,1,none⟩) (Nat.le_refl _) _⟩
end Go.Proofs.YtahccighonddaaaGreatDoor
namespace Go.Proofs.YtahccighonddaaaGreatDoor
open Go.RowKit
abbrev lfabO (ra : Option Addr) (rl rc : Nat) (ea : Option Addr) (el ec : Nat) (ta : Option Addr) (tl tc : Nat) (now : Int) : Obj := .cells #[.slice ra rl rc,.slice ea el ec,.slice ta tl tc,.int .i64 now] 26 (0,0)
structure CB (w v : World) (o0 o2 : Obj) : Prop where
  b0 : v.heap[w.heap.size]? = some o0
  b1 : v.heap[w.heap.size + 1]? = some (fabO none 0 0 none 0 0 none 0 0 0)
  b2 : v.heap[w.heap.size + 1 + 1]? = some o2
  bel : Below w.heap.size w v
theorem CB.under {w u v : World} {o0 o2 : Obj} (h : CB w u o0 o2) (hb : Below u.heap.size u v) : CB w v o0 o2 :=
  ⟨(hb.block _ (fb_lt h.b0)).trans h.b0,(hb.block _ (fb_lt h.b1)).trans h.b1,(hb.block _ (fb_lt h.b2)).trans h.b2,below_tr h.bel hb⟩
theorem CB.set {w u : World} {o0 : Obj} {C : Array Value} {t : TypeId} (h : CB w u o0 (.cells C t (0,0))) (i : Nat) (v : Value) : CB w (u.setCell ⟨w.heap.size + 1 + 1,i,none⟩ v) o0 (.cells (C.set! i v) t (0,0)) := by
  have hS := grown_setc u (w.heap.size + 1 + 1) i v
  refine ⟨(hS.block _ (fb_lt h.b0) (by simp; omega)).trans h.b0,(hS.block _ (fb_lt h.b1) (by simp)).trans h.b1,?_,h.bel.setCell (p := ⟨w.heap.size + 1 + 1,i,none⟩) (by show w.heap.size ≤ w.heap.size + 1 + 1; omega) _⟩
  exact heap_setCell_same u (w.heap.size + 1 + 1) i _ _ v h.b2
theorem cb_new (w : World) (o : Obj) : CB w (((w.alloc o).alloc (fabO none 0 0 none 0 0 none 0 0 0)).alloc (fabO none 0 0 none 0 0 none 0 0 0)) o (fabO none 0 0 none 0 0 none 0 0 0) := by
  refine ⟨(Below.heap_alloc _ _ _ (by simp; omega)).trans ((Below.heap_alloc _ _ _ (by simp)).trans (heap_alloc_new _ _)),?_,?_,(((Below.refl _ _).alloc (Nat.le_refl _) _).alloc (by simp) _).alloc (by simp; omega) _⟩
  · have h := heap_alloc_new (w.alloc o) (fabO none 0 0 none 0 0 none 0 0 0)
    rw [World.size_alloc] at h
    exact (Below.heap_alloc _ _ _ (by simp)).trans h
  · have h := heap_alloc_new ((w.alloc o).alloc (fabO none 0 0 none 0 0 none 0 0 0)) (fabO none 0 0 none 0 0 none 0 0 0)
    simp only [World.size_alloc] at h
    exact h
end Go.Proofs.YtahccighonddaaaGreatDoor
namespace Go.Proofs.YtahccighonddaaaGreatDoor
open Go.RowKit Go.Maps
def blk? (a : Option Addr) : Option Nat := a.map Addr.block
theorem ownBlock_slice (a : Option Addr) (n c : Nat) : (Value.slice a n c).ownBlock = blk? a := by cases a <;> rfl
theorem own_ne {w : World} {base size n c B : Nat} {e T : TypeId} {a : Option Addr} {xs : List Value} {C : Array Value} (h : w.ownsRow base e size (.slice a n c) n xs) (hB : w.heap[B]? = some (.cells C T (0,0))) (hne : e ≠ T) : blk? a ≠ some B := by
  intro hb
  rcases h.2 with ⟨e1,_⟩ | ⟨g,cap,cur,e1,_,hg,_⟩
  · simp only [Value.slice.injEq] at e1
    rw [e1.1] at hb
    cases hb
  · simp only [Value.slice.injEq] at e1
    rw [e1.1] at hb
    simp [blk?] at hb
    subst hb
    rw [hg] at hB
    cases hB
    exact hne rfl
theorem own_ne_map {w : World} {base size n c M m : Nat} {e k : TypeId} {P : Program} {R : Value → Option (DataW Unit × List MemPlace)} {D : DataW Unit} {a : Option Addr} {xs : List Value} (h : w.ownsRow base e size (.slice a n c) n xs) (hM : w.ownsMap P k R M m D) : blk? a ≠ some M := by
  intro hb
  obtain ⟨es,clock,hm,_⟩ := hM
  rcases h.2 with ⟨e1,_⟩ | ⟨g,cap,cur,e1,_,hg,_⟩
  · simp only [Value.slice.injEq] at e1
    rw [e1.1] at hb
    cases hb
  · simp only [Value.slice.injEq] at e1
    rw [e1.1] at hb
    simp [blk?] at hb
    subst hb
    rw [hg] at hm
    cases hm
theorem own_ne_own {w : World} {base base' size size' n n' c c' : Nat} {e e' : TypeId} {a a' : Option Addr} {xs xs' : List Value} (h : w.ownsRow base e size (.slice a n c) n xs) (h' : w.ownsRow base' e' size' (.slice a' n' c') n' xs') (hne : e ≠ e') {X : Nat} (hX : blk? a = some X) : blk? a' ≠ some X := by
  rcases h.2 with ⟨e1,_⟩ | ⟨g,cap,cur,e1,_,hg,_⟩
  · simp only [Value.slice.injEq] at e1
    rw [e1.1] at hX
    cases hX
  · simp only [Value.slice.injEq] at e1
    rw [e1.1] at hX
    simp [blk?] at hX
    subst hX
    exact own_ne h' hg (fun hh => hne hh.symm)
theorem own_keep {w w' : World} {base size n c : Nat} {e : TypeId} {a : Option Addr} {xs : List Value} {row : Option Nat} (h : w.ownsRow base e size (.slice a n c) n xs) (hg : w.grownBy w' row) (hne : row = none ∨ blk? a ≠ row) : w'.ownsRow base e size (.slice a n c) n xs :=
  h.kept hg (by
    rw [ownBlock_slice]
    by_cases hh : blk? a = none
    · exact .inl hh
    · rcases hne with rfl | hne
      · exact .inr hh
      · exact .inr hne)
theorem own_below {w w' : World} {base size n : Nat} {e : TypeId} {v : Value} {xs : List Value} (h : w.ownsRow base e size v n xs) (hb : Below w.heap.size w w') : w'.ownsRow base e size v n xs :=
  h.kept (tbelow_grown hb) (by by_cases hh : v.ownBlock = none; exact .inl hh; exact .inr hh)
theorem own_base {w : World} {base base' : Nat} {e : TypeId} {size : Nat} {v : Value} {n : Nat} {xs : List Value} (h : w.ownsRow base e size v n xs) (hb : base' ≤ base) : w.ownsRow base' e size v n xs := by
  refine ⟨h.1,?_⟩
  rcases h.2 with hn | ⟨g,cap,cur,hv,hg,rest⟩
  · exact .inl hn
  · exact .inr ⟨g,cap,cur,hv,Nat.le_trans hb hg,rest⟩
theorem own_blk_lt {w : World} {base size n c : Nat} {e : TypeId} {a : Option Addr} {xs : List Value} (h : w.ownsRow base e size (.slice a n c) n xs) {X : Nat} (hX : blk? a = some X) : base ≤ X ∧ X < w.heap.size := h.lt X (by rw [ownBlock_slice]; exact hX)
def Mine (B M : Nat) (ta ra ea : Option Addr) (X : Nat) : Prop := X = B ∨ X = M ∨ blk? ta = some X ∨ blk? ra = some X ∨ blk? ea = some X
structure WK (lo : Nat) (v : World) (B M : Nat) (ta : Option Addr) (tl tc : Nat) (ra : Option Addr) (rl rc : Nat) (ea : Option Addr) (el ec : Nat) (now began puts : Int) (ts : List TD) (rs : List RD) (es : List Int) (m : Nat) (D : DataW Unit) : Prop where
  b : v.heap[B]? = some (workO ta tl tc M ra rl rc ea el ec now began puts)
  m : v.ownsMap Tryz.prog 2 (plainElem Tryz.prog 3) M m D
  t : v.ownsRow lo 59 6 (.slice ta tl tc) tl (tdCells ts)
  r : v.ownsRow lo 63 4 (.slice ra rl rc) rl (rdCells rs)
  e : v.ownsRow lo 2 1 (.slice ea el ec) el (numCells es)
  ft : ∀ t ∈ ts,TFit v t
  fr : ∀ r ∈ rs,r.fit v
  ot : ∀ t ∈ ts,∀ X,Mine B M ta ra ea X → t.off X
  or : ∀ r ∈ rs,∀ X,Mine B M ta ra ea X → r.off X
  lb : lo ≤ B
  lm : lo ≤ M
section
variable {lo : Nat} {u v : World} {B M : Nat} {ta : Option Addr} {tl tc : Nat} {ra : Option Addr} {rl rc : Nat} {ea : Option Addr} {el ec : Nat} {now began puts : Int} {ts : List TD} {rs : List RD} {es : List Int} {m : Nat} {D : DataW Unit}
theorem WK.txs (h : WK lo u B M ta tl tc ra rl rc ea el ec now began puts ts rs es m D) : Txs u ta tl ts := txs_own (Q := fun w t => TFit w t) h.t h.ft
theorem WK.rngs (h : WK lo u B M ta tl tc ra rl rc ea el ec now began puts ts rs es m D) : Rngs u ra rl rs := rngs_own (Q := fun w r => r.fit w) h.r h.fr
theorem WK.nums (h : WK lo u B M ta tl tc ra rl rc ea el ec now began puts ts rs es m D) : Nums u ea el es := own_nums h.e
theorem WK.bm (h : WK lo u B M ta tl tc ra rl rc ea el ec now began puts ts rs es m D) : B ≠ M := by
  intro e
  subst e
  obtain ⟨es',clock,hm,_⟩ := h.m
  rw [h.b] at hm
  cases hm
theorem WK.mine_lt (h : WK lo u B M ta tl tc ra rl rc ea el ec now began puts ts rs es m D) {X : Nat} (hX : Mine B M ta ra ea X) : lo ≤ X ∧ X < u.heap.size := by
  rcases hX with rfl | rfl | hX | hX | hX
  · exact ⟨h.lb,fb_lt h.b⟩
  · exact ⟨h.lm,h.m.lt⟩
  · exact own_blk_lt h.t hX
  · exact own_blk_lt h.r hX
  · exact own_blk_lt h.e hX
theorem WK.under (h : WK lo u B M ta tl tc ra rl rc ea el ec now began puts ts rs es m D) (hb : Below u.heap.size u v) : WK lo v B M ta tl tc ra rl rc ea el ec now began puts ts rs es m D :=
  ⟨(hb.block _ (fb_lt h.b)).trans h.b,h.m.kept (tbelow_grown hb) (by simp),own_below h.t hb,own_below h.r hb,own_below h.e hb,fun t ht => (h.ft t ht).below hb,fun r hr => (h.fr r hr).below hb,h.ot,h.or,h.lb,h.lm⟩
theorem WK.put {now' began' puts' : Int} (h : WK lo u B M ta tl tc ra rl rc ea el ec now began puts ts rs es m D) (hg : u.grownBy v (some B)) (hb : v.heap[B]? = some (workO ta tl tc M ra rl rc ea el ec now' began' puts')) : WK lo v B M ta tl tc ra rl rc ea el ec now' began' puts' ts rs es m D :=
  ⟨hb,h.m.kept hg (by have := h.bm; simp; omega),own_keep h.t hg (.inr (own_ne h.t h.b (by decide))),own_keep h.r hg (.inr (own_ne h.r h.b (by decide))),own_keep h.e hg (.inr (own_ne h.e h.b (by decide))),
    fun t ht => (h.ft t ht).grown hg (h.ot t ht B (.inl rfl)),fun r hr => (h.fr r hr).grown hg (h.or r hr B (.inl rfl)).1 (h.or r hr B (.inl rfl)).2,h.ot,h.or,h.lb,h.lm⟩
theorem WK.box (h : WK lo u B M ta tl tc ra rl rc ea el ec now began puts ts rs es m D) (i : Nat) (y : Value) : u.grownBy (u.setCell ⟨B,i,none⟩ y) (some B) ∧ (u.setCell ⟨B,i,none⟩ y).heap[B]? = some (.cells ((workC ta tl tc M ra rl rc ea el ec now began puts).set! i y) 135 (0,0)) :=
  ⟨grown_setc u B i y,heap_setCell_same u B i _ _ y h.b⟩
end
end Go.Proofs.YtahccighonddaaaGreatDoor
namespace Go.Proofs.YtahccighonddaaaGreatDoor
open Go.RowKit Go.Maps
def RD.own (r : RD) (w : World) (base : Nat) : Prop := OwnRing w base r.ra r.rl r.rc r.ca r.cl r.cc (r.recs.map Value.string) (curCells r.curs)
def TD.own (t : TD) (w : World) (base : Nat) : Prop := OwnTxn w base t.ra t.rl t.rc t.la t.ll t.lc (numCells t.rs) (numCells t.ls)
def RD.blks (r : RD) : List Nat := (blk? r.ra).toList ++ (blk? r.ca).toList
def TD.blks (t : TD) : List Nat := (blk? t.ra).toList ++ (blk? t.la).toList
def fabBlks (rs : List RD) (ts : List TD) (ea : Option Addr) : List Nat := rs.flatMap RD.blks ++ (ts.flatMap TD.blks ++ (blk? ea).toList)
theorem RD.own.lt {r : RD} {w : World} {base X : Nat} (h : r.own w base) (hX : X ∈ r.blks) : base ≤ X ∧ X < w.heap.size := by
  simp only [RD.blks,List.mem_append,Option.mem_toList] at hX
  rcases hX with hX | hX
  · exact own_blk_lt h.1 hX
  · exact own_blk_lt h.2 hX
theorem TD.own.lt {t : TD} {w : World} {base X : Nat} (h : t.own w base) (hX : X ∈ t.blks) : base ≤ X ∧ X < w.heap.size := by
  simp only [TD.blks,List.mem_append,Option.mem_toList] at hX
  rcases hX with hX | hX
  · exact own_blk_lt h.1 hX
  · exact own_blk_lt h.2.1 hX
theorem nodup_opt (o : Option Nat) : o.toList.Nodup := by cases o <;> simp
theorem nodup_two {l m : List Nat} (hl : l.Nodup) (hm : m.Nodup) (h : ∀ x ∈ l,∀ y ∈ m,x ≠ y) : (l ++ m).Nodup := List.nodup_append.2 ⟨hl,hm,h⟩
theorem RD.own.nd {r : RD} {w : World} {base : Nat} (h : r.own w base) : r.blks.Nodup :=
  nodup_two (nodup_opt _) (nodup_opt _) fun x hx y hy e => by
    subst e
    exact own_ne_own h.1 h.2 (by decide) (Option.mem_toList.1 hx) (Option.mem_toList.1 hy)
theorem TD.own.nd {t : TD} {w : World} {base : Nat} (h : t.own w base) : t.blks.Nodup :=
  nodup_two (nodup_opt _) (nodup_opt _) fun x hx y hy e => by
    subst e
    have h1 := h.2.2 x (by rw [ownBlock_slice]; exact Option.mem_toList.1 hx)
    rw [ownBlock_slice] at h1
    exact h1 (Option.mem_toList.1 hy)
theorem RD.own.keep {r : RD} {w w' : World} {base : Nat} {row : Option Nat} (h : r.own w base) (hg : w.grownBy w' row) (hr : ∀ X ∈ r.blks,row ≠ some X) : r.own w' base := by
  have key : ∀ (a : Option Addr),(∀ X ∈ (blk? a).toList,row ≠ some X) → row = none ∨ blk? a ≠ row := fun a ha => by
    cases hrow : row with
    | none => exact .inl rfl
    | some X => exact .inr fun e => ha X (by rw [e]; simp) hrow
  refine ⟨own_keep h.1 hg (key _ fun X hX => hr X ?_),own_keep h.2 hg (key _ fun X hX => hr X ?_)⟩ <;> simp only [RD.blks,List.mem_append]
  · exact .inl hX
  · exact .inr hX
theorem TD.own.keep {t : TD} {w w' : World} {base : Nat} {row : Option Nat} (h : t.own w base) (hg : w.grownBy w' row) (hr : ∀ X ∈ t.blks,row ≠ some X) : t.own w' base := by
  have key : ∀ (a : Option Addr),(∀ X ∈ (blk? a).toList,row ≠ some X) → row = none ∨ blk? a ≠ row := fun a ha => by
    cases hrow : row with
    | none => exact .inl rfl
    | some X => exact .inr fun e => ha X (by rw [e]; simp) hrow
  refine ⟨own_keep h.1 hg (key _ fun X hX => hr X ?_),own_keep h.2.1 hg (key _ fun X hX => hr X ?_),h.2.2⟩ <;> simp only [TD.blks,List.mem_append]
  · exact .inl hX
  · exact .inr hX
theorem RD.own.mono {r : RD} {w : World} {base base' : Nat} (h : r.own w base) (hb : base' ≤ base) : r.own w base' := ⟨own_base h.1 hb,own_base h.2 hb⟩
theorem TD.own.mono {t : TD} {w : World} {base base' : Nat} (h : t.own w base) (hb : base' ≤ base) : t.own w base' := ⟨own_base h.1 hb,own_base h.2.1 hb,h.2.2⟩
theorem RD.own.not {r : RD} {w : World} {base B : Nat} {C : Array Value} {T : TypeId} (h : r.own w base) (hB : w.heap[B]? = some (.cells C T (0,0))) (h1 : 9 ≠ T) (h2 : 96 ≠ T) : B ∉ r.blks := fun hX => by
  simp only [RD.blks,List.mem_append,Option.mem_toList] at hX
  rcases hX with hX | hX
  · exact own_ne h.1 hB h1 hX
  · exact own_ne h.2 hB h2 hX
theorem TD.own.not {t : TD} {w : World} {base B : Nat} {C : Array Value} {T : TypeId} (h : t.own w base) (hB : w.heap[B]? = some (.cells C T (0,0))) (h1 : 2 ≠ T) : B ∉ t.blks := fun hX => by
  simp only [TD.blks,List.mem_append,Option.mem_toList] at hX
  rcases hX with hX | hX
  · exact own_ne h.1 hB h1 hX
  · exact own_ne h.2.1 hB h1 hX
theorem own_typed {w : World} {base size n c : Nat} {e : TypeId} {a : Option Addr} {xs : List Value} (h : w.ownsRow base e size (.slice a n c) n xs) {X : Nat} (hX : blk? a = some X) : ∃ C,w.heap[X]? = some (.cells C e (0,0)) := by
  rcases h.2 with ⟨e1,_⟩ | ⟨g,cap,cur,e1,_,hg,_⟩
  · simp only [Value.slice.injEq] at e1
    rw [e1.1] at hX
    cases hX
  · simp only [Value.slice.injEq] at e1
    rw [e1.1] at hX
    simp [blk?] at hX
    subst hX
    exact ⟨cur,hg⟩
structure OwnFab (w : World) (base : Nat) (ra : Option Addr) (rl rc : Nat) (ea : Option Addr) (el ec : Nat) (ta : Option Addr) (tl tc : Nat) (rs : List RD) (es : List Int) (ts : List TD) : Prop where
  r : w.ownsRow base 63 4 (.slice ra rl rc) rl (rdCells rs)
  e : w.ownsRow base 2 1 (.slice ea el ec) el (numCells es)
  t : w.ownsRow base 59 6 (.slice ta tl tc) tl (tdCells ts)
  ri : ∀ r ∈ rs,r.own w base
  ti : ∀ t ∈ ts,t.own w base
  nd : (fabBlks rs ts ea).Nodup
section
variable {w w' : World} {base : Nat} {ra : Option Addr} {rl rc : Nat} {ea : Option Addr} {el ec : Nat} {ta : Option Addr} {tl tc : Nat} {rs : List RD} {es : List Int} {ts : List TD}
theorem OwnFab.lt (h : OwnFab w base ra rl rc ea el ec ta tl tc rs es ts) {X : Nat} (hX : X ∈ fabBlks rs ts ea) : base ≤ X ∧ X < w.heap.size := by
  simp only [fabBlks,List.mem_append,List.mem_flatMap,Option.mem_toList] at hX
  rcases hX with ⟨r,hr,hX⟩ | ⟨t,ht,hX⟩ | hX
  · exact (h.ri r hr).lt hX
  · exact (h.ti t ht).lt hX
  · exact own_blk_lt h.e hX
theorem OwnFab.keep (h : OwnFab w base ra rl rc ea el ec ta tl tc rs es ts) {row : Option Nat} (hg : w.grownBy w' row) (h1 : row = none ∨ blk? ra ≠ row) (h2 : row = none ∨ blk? ta ≠ row) (h3 : ∀ X ∈ fabBlks rs ts ea,row ≠ some X) : OwnFab w' base ra rl rc ea el ec ta tl tc rs es ts := by
  refine ⟨own_keep h.r hg h1,own_keep h.e hg ?_,own_keep h.t hg h2,fun r hr => (h.ri r hr).keep hg fun X hX => h3 X ?_,fun t ht => (h.ti t ht).keep hg fun X hX => h3 X ?_,h.nd⟩
  · cases hrow : row with
    | none => exact .inl rfl
    | some X => exact .inr fun e => h3 X (by simp [fabBlks,e]) hrow
  · simp only [fabBlks,List.mem_append,List.mem_flatMap]
    exact .inl ⟨r,hr,hX⟩
  · simp only [fabBlks,List.mem_append,List.mem_flatMap]
    exact .inr (.inl ⟨t,ht,hX⟩)
theorem OwnFab.below (h : OwnFab w base ra rl rc ea el ec ta tl tc rs es ts) (hb : Below w.heap.size w w') : OwnFab w' base ra rl rc ea el ec ta tl tc rs es ts := h.keep (tbelow_grown hb) (.inl rfl) (.inl rfl) (fun _ _ e => by cases e)
theorem OwnFab.box (h : OwnFab w base ra rl rc ea el ec ta tl tc rs es ts) {B : Nat} {C : Array Value} {T : TypeId} (hB : w.heap[B]? = some (.cells C T (0,0))) (hT : T ≠ 63 ∧ T ≠ 59 ∧ T ≠ 2 ∧ T ≠ 9 ∧ T ≠ 96) (hg : w.grownBy w' (some B)) : OwnFab w' base ra rl rc ea el ec ta tl tc rs es ts := by
  refine h.keep hg (.inr (own_ne h.r hB hT.1.symm)) (.inr (own_ne h.t hB hT.2.1.symm)) fun X hX e => ?_
  cases e
  simp only [fabBlks,List.mem_append,List.mem_flatMap,Option.mem_toList] at hX
  rcases hX with ⟨r,hr,hX⟩ | ⟨t,ht,hX⟩ | hX
  · exact (h.ri r hr).not hB hT.2.2.2.1.symm hT.2.2.2.2.symm hX
  · exact (h.ti t ht).not hB hT.2.2.1.symm hX
  · exact own_ne h.e hB hT.2.2.1.symm hX
theorem ownFab_nil (w : World) (base : Nat) : OwnFab w base none 0 0 none 0 0 none 0 0 [] [] [] :=
  ⟨World.ownsRow_nil _ _ _ _,World.ownsRow_nil _ _ _ _,World.ownsRow_nil _ _ _ _,(fun _ h => by cases h),(fun _ h => by cases h),by simp [fabBlks,blk?]⟩
theorem OwnFab.rfits (h : OwnFab w base ra rl rc ea el ec ta tl tc rs es ts) : rs.length = rl := by have := h.r.1; rw [rdCells_length] at this; omega
theorem OwnFab.tfits (h : OwnFab w base ra rl rc ea el ec ta tl tc rs es ts) : ts.length = tl := by have := h.t.1; rw [tdCells_length] at this; omega
end
end Go.Proofs.YtahccighonddaaaGreatDoor
namespace Go.Proofs.YtahccighonddaaaGreatDoor
open Go.RowKit Go.Maps
attribute [local go_sem ↓] Go.wp_at_zero Go.wp_at_succ
set_option linter.unusedSimpArgs false
variable {B : Nat} {ta : Option Addr} {tl tc M : Nat} {ra : Option Addr} {rl rc : Nat} {ea : Option Addr} {ec : Nat} {now began puts : Int}
theorem open_lookup {w : World} {n : Nat} {ts : List TD} {k : Nat} (h : w.ownsMap Tryz.prog 2 (plainElem Tryz.prog 3) M n (openD ts k)) (p : Int) (hp : -9223372036854775808 ≤ p ∧ p ≤ 9223372036854775807) :
    (Instr.lookup 126 (.map (some M)) (.int .i64 p) false).run Tryz.prog w = .ok (.int .i64 (lastAt ts p k : Int)) w := by
  obtain ⟨c,hrun,hat,_⟩ := h.lookup_int mapKey Tryz.underlying126 Tryz.underlying3 (mapZero _) (keyOf_int_mk Tryz.underlying2 (wf64 hp))
  rw [openD_at] at hat
  simp only [DataW.lit.injEq,Lit.int.injEq,true_and] at hat
  rw [hrun,hat]
structure OA (v : World) (B : Nat) (ta : Option Addr) (tl tc M : Nat) (ra : Option Addr) (rl rc : Nat) (ea : Option Addr) (ec : Nat) (now began puts : Int) (es : List Int) (ts : List TD) : Prop where
  box : v.heap[B]? = some (workO ta tl tc M ra rl rc ea 4 ec now began puts)
  map : v.ownsMap Tryz.prog 2 (plainElem Tryz.prog 3) M tl (openD ts tl)
  eps : Nums v ea 4 es
theorem OA.under {u v : World} {es : List Int} {ts : List TD} (h : OA u B ta tl tc M ra rl rc ea ec now began puts es ts) (hb : Below u.heap.size u v) : OA v B ta tl tc M ra rl rc ea ec now began puts es ts :=
  ⟨(hb.block _ (fb_lt h.box)).trans h.box,h.map.kept (tbelow_grown hb) (by simp),nums_below h.eps hb⟩
set_option maxRecDepth 100000 in
set_option maxHeartbeats 8000000 in
theorem impl_openRight (j : Nat) (t : TD) (P : Nat) (V : Int) (es : List Int) (ts : List TD) (w : World) (h : OA w B ta tl tc M ra rl rc ea ec now began puts es ts) (_hj : j ≤ 1048576) (_htl : tl ≤ 1048576) (hp : t.p = (P : Int) + 1) (hP : P < 4) (hV : es[P]? = some V) :
    Calls Tryz.prog 188 #[.pointer (some ⟨B,0,none⟩),.int .i64 j,t.v] w fun x w' => x = .returned (.bool (lastAt ts t.p tl == j && t.e == V && decide (now < t.u))) ∧ Below w.heap.size w w' := by
  obtain ⟨p,e,s,u,ra',rl',rc',la',ll',lc',rs',ls'⟩ := t
  simp only at hp
  subst hp
  have H0 : Hid (OA (w.alloc (txnObj ((P : Int) + 1) e s u ra' rl' rc' la' ll' lc')) B ta tl tc M ra rl rc ea ec now began puts es ts) := h.under (fbelow_new _ _)
  have HB : Hid (Below w.heap.size w (w.alloc (txnObj ((P : Int) + 1) e s u ra' rl' rc' la' ll' lc')).drew) := below_tr (fbelow_new _ _) ((Below.refl _ _).drew)
  have HQ : Hid _ := fun w h1 h2 => impl_epochOf (B := B) (ta := ta) (tl := tl) (tc := tc) (M := M) (ra := ra) (rl := rl) (rc := rc) (ea := ea) (ec := ec) (now := now) (began := began) (puts := puts) es P V w h1 h2 hP hV
  have HT : Hid ((w.alloc (txnObj ((P : Int) + 1) e s u ra' rl' rc' la' ll' lc')).heap[w.heap.size]? = some (txnObj ((P : Int) + 1) e s u ra' rl' rc' la' ll' lc')) := heap_alloc_new _ _
  clear h hV
  have hlk : ∀ x : World,x.ownsMap Tryz.prog 2 (plainElem (H := Unit) Tryz.prog 3) M tl (openD ts tl) → (Instr.lookup 126 (.map (some M)) (.int .i64 ((P : Int) + 1)) false).run Tryz.prog x = .ok (.int .i64 (lastAt ts ((P : Int) + 1) tl : Int)) x := fun x hx => open_lookup hx _ (by omega)
  have hcl := lastAt_le ts ((P : Int) + 1) tl
  obtain ⟨c,hc⟩ : ∃ c,lastAt ts ((P : Int) + 1) tl = c := ⟨_,rfl⟩
  rw [hc] at hlk hcl
  simp only
  rw [hc]
  clear hc
  have HLK : Hid _ := hlk
  clear hlk
  go_enter Tryz.func188,Tryz.ntmps188
  go_upto_region 1 with fail
  by_cases h1 : c = j
  case neg =>
    have h1' : ((c : Int) == (j : Int)) = false := by rw [beq_eq_false_iff_ne]; omega
    refine wp_region_held_drew (S := (fun x => (∀ o,x.cell? ⟨w.heap.size,o,none⟩ = (#[.int .i64 ((P : Int) + 1),.int .i64 e,.int .i64 s,.int .i64 u,.slice ra' rl' rc',.slice la' ll' lc'] : Array Value)[o]?) ∧ (∀ o,x.cell? ⟨B,o,none⟩ = (workC ta tl tc M ra rl rc ea 4 ec now began puts)[o]?) ∧ (Instr.lookup 126 (.map (some M)) (.int .i64 ((P : Int) + 1)) false).run Tryz.prog x = .ok (.int .i64 (c : Int)) x)) (by kernel_rfl) (⟨fun o => ((((Below.refl _ _).drew)).cell (p := ⟨w.heap.size,o,none⟩) (fb_lt HT.out)).trans (fb_cell HT.out o),fun o => fb_cell (H0.out.under ((Below.refl _ _).drew)).box o,HLK.out _ (H0.out.under ((Below.refl _ _).drew)).map⟩) (fun hHeld => ?_)
    refine tk (i := 0) (v := ?_) rfl hHeld (.inl ⟨by rfl,?_⟩) ?_
    rotate_left
    · intro wy hSw; (try dsimp only at hSw); go_simp; (try with_reducible rfl)
    try simp only [Act.put,n1,n2,n3,n4,n5,n6]
    refine tk (i := 1) (v := ?_) rfl hHeld (.inl ⟨by rfl,?_⟩) ?_
    rotate_left
    · intro wy hSw; (try dsimp only at hSw); go_simp; (try with_reducible rfl)
    try simp only [Act.put,n1,n2,n3,n4,n5,n6]
    refine tk (i := 2) (v := ?_) rfl hHeld (.inl ⟨by rfl,?_⟩) ?_
    rotate_left
    · intro wy hSw; (try dsimp only at hSw); go_simp; (try with_reducible rfl)
    try simp only [Act.put,n1,n2,n3,n4,n5,n6]
    refine tk (i := 3) (v := ?_) rfl hHeld (.inl ⟨by rfl,?_⟩) ?_
    rotate_left
    · intro wy hSw; (try dsimp only at hSw); go_simp; (try with_reducible rfl)
    try simp only [Act.put,n1,n2,n3,n4,n5,n6]
    refine tk (i := 4) (v := ?_) rfl hHeld (.inl ⟨by rfl,?_⟩) ?_
    rotate_left
    · intro wy hSw; (try dsimp only at hSw); go_simp; (try with_reducible rfl)
    try simp only [Act.put,n1,n2,n3,n4,n5,n6]
    refine tk (i := 5) (v := ?_) rfl hHeld (.inl ⟨by rfl,?_⟩) ?_
    rotate_left
    · intro wy hSw; (try dsimp only at hSw); go_simp; (try with_reducible rfl)
    try simp only [Act.put,n1,n2,n3,n4,n5,n6]
    refine tk (i := 6) (v := ?_) rfl hHeld (.inl ⟨by rfl,?_⟩) ?_
    rotate_left
    · intro wy hSw; (try dsimp only at hSw); go_simp; (try with_reducible rfl)
    try simp only [Act.put,n1,n2,n3,n4,n5,n6]
    refine tk (i := 7) (v := ?_) rfl hHeld (.inl ⟨by rfl,?_⟩) ?_
    rotate_left
    · intro wy hSw; (try dsimp only at hSw); go_simp; (try with_reducible rfl)
    try simp only [Act.put,n1,n2,n3,n4,n5,n6]
    refine tk (i := 8) (v := ?_) rfl hHeld (.inl ⟨by rfl,?_⟩) ?_
    rotate_left
    · intro wy hSw; (try dsimp only at hSw); go_simp; (try with_reducible rfl)
    try simp only [Act.put,n1,n2,n3,n4,n5,n6]
    refine tk (i := 9) (v := ?_) rfl hHeld (.inl ⟨by rfl,?_⟩) ?_
    rotate_left
    · intro wy hSw; (try dsimp only at hSw); go_simp; (try with_reducible rfl)
    try simp only [Act.put,n1,n2,n3,n4,n5,n6]
    refine tk (i := 10) (v := ?_) rfl hHeld (.inl ⟨by rfl,?_⟩) ?_
    rotate_left
    · intro wy hSw; (try dsimp only at hSw); go_simp; (try with_reducible rfl)
    try simp only [Act.put,n1,n2,n3,n4,n5,n6]
    refine tk (i := 11) (v := undef) rfl hHeld (.inr ⟨by rfl,rfl⟩) ?_
    try simp only [Act.put,n1,n2,n3,n4,n5,n6]
    refine tk (i := 12) (v := undef) rfl hHeld (.inr ⟨by rfl,rfl⟩) ?_
    try simp only [Act.put,n1,n2,n3,n4,n5,n6]
    refine tk (i := 13) (v := undef) rfl hHeld (.inr ⟨by rfl,rfl⟩) ?_
    try simp only [Act.put,n1,n2,n3,n4,n5,n6]
    refine tk (i := 14) (v := undef) rfl hHeld (.inr ⟨by rfl,rfl⟩) ?_
    try simp only [Act.put,n1,n2,n3,n4,n5,n6]
    refine tk (i := 15) (v := undef) rfl hHeld (.inr ⟨by rfl,rfl⟩) ?_
    try simp only [Act.put,n1,n2,n3,n4,n5,n6]
    refine tk (i := 16) (v := undef) rfl hHeld (.inr ⟨by rfl,rfl⟩) ?_
    try simp only [Act.put,n1,n2,n3,n4,n5,n6]
    refine tk (i := 17) (v := undef) rfl hHeld (.inr ⟨by rfl,rfl⟩) ?_
    try simp only [Act.put,n1,n2,n3,n4,n5,n6]
    refine tk (i := 18) (v := ?_) rfl hHeld (.inl ⟨by rfl,?_⟩) ?_
    rotate_left
    · intro wy hSw; (try dsimp only at hSw); go_simp; (try with_reducible rfl)
    try simp only [Act.put,n1,n2,n3,n4,n5,n6]
    refine tk (i := 19) (v := ?_) rfl hHeld (.inl ⟨by rfl,?_⟩) ?_
    rotate_left
    · intro wy hSw; (try dsimp only at hSw); go_simp; (try with_reducible rfl)
    try simp only [Act.put,n1,n2,n3,n4,n5,n6]
    refine tk (i := 20) (v := undef) rfl hHeld (.inr ⟨by rfl,rfl⟩) ?_
    try simp only [Act.put,n1,n2,n3,n4,n5,n6]
    refine tk (i := 21) (v := undef) rfl hHeld (.inr ⟨by rfl,rfl⟩) ?_
    try simp only [Act.put,n1,n2,n3,n4,n5,n6]
    refine tk (i := 22) (v := undef) rfl hHeld (.inr ⟨by rfl,rfl⟩) ?_
    try simp only [Act.put,n1,n2,n3,n4,n5,n6]
    refine tk (i := 23) (v := undef) rfl hHeld (.inr ⟨by rfl,rfl⟩) ?_
    try simp only [Act.put,n1,n2,n3,n4,n5,n6]
    refine tk (i := 24) (v := undef) rfl hHeld (.inr ⟨by rfl,rfl⟩) ?_
    try simp only [Act.put,n1,n2,n3,n4,n5,n6]
    refine tk (i := 25) (v := undef) rfl hHeld (.inr ⟨by rfl,rfl⟩) ?_
    try simp only [Act.put,n1,n2,n3,n4,n5,n6]
    refine tk (i := 26) (v := undef) rfl hHeld (.inr ⟨by rfl,rfl⟩) ?_
    try simp only [Act.put,n1,n2,n3,n4,n5,n6]
    refine tk (i := 27) (v := ?_) rfl hHeld (.inl ⟨by rfl,?_⟩) ?_
    rotate_left
    · intro wy hSw; (try dsimp only at hSw); go_simp; (try with_reducible rfl)
    try simp only [Act.put,n1,n2,n3,n4,n5,n6]
    refine tk (i := 28) (v := ?_) rfl hHeld (.inl ⟨by rfl,?_⟩) ?_
    rotate_left
    · intro wy hSw; (try dsimp only at hSw); go_simp; (try with_reducible rfl)
    try simp only [Act.put,n1,n2,n3,n4,n5,n6]
    refine wpAnyH_done (by kernel_rfl) ?_ _
    go_wp2
    go_ret
    exact ⟨ret_bool (by simp [h1]),HB.out⟩
  have h1' : ((c : Int) == (j : Int)) = true := by rw [beq_iff_eq]; omega
  by_cases h2 : e = V
  case neg =>
    have h2' : (e == V) = false := by rw [beq_eq_false_iff_ne]; exact h2
    refine wp_region_held_drew (S := (fun x => (∀ o,x.cell? ⟨w.heap.size,o,none⟩ = (#[.int .i64 ((P : Int) + 1),.int .i64 e,.int .i64 s,.int .i64 u,.slice ra' rl' rc',.slice la' ll' lc'] : Array Value)[o]?) ∧ (∀ o,x.cell? ⟨B,o,none⟩ = (workC ta tl tc M ra rl rc ea 4 ec now began puts)[o]?) ∧ (Instr.lookup 126 (.map (some M)) (.int .i64 ((P : Int) + 1)) false).run Tryz.prog x = .ok (.int .i64 (c : Int)) x)) (by kernel_rfl) (⟨fun o => ((((Below.refl _ _).drew)).cell (p := ⟨w.heap.size,o,none⟩) (fb_lt HT.out)).trans (fb_cell HT.out o),fun o => fb_cell (H0.out.under ((Below.refl _ _).drew)).box o,HLK.out _ (H0.out.under ((Below.refl _ _).drew)).map⟩) (fun hHeld => ?_)
    refine tk (i := 0) (v := ?_) rfl hHeld (.inl ⟨by rfl,?_⟩) ?_
    rotate_left
    · intro wy hSw; (try dsimp only at hSw); go_simp; (try with_reducible rfl)
    try simp only [Act.put,n1,n2,n3,n4,n5,n6]
    refine tk (i := 1) (v := ?_) rfl hHeld (.inl ⟨by rfl,?_⟩) ?_
    rotate_left
    · intro wy hSw; (try dsimp only at hSw); go_simp; (try with_reducible rfl)
    try simp only [Act.put,n1,n2,n3,n4,n5,n6]
    refine tk (i := 2) (v := ?_) rfl hHeld (.inl ⟨by rfl,?_⟩) ?_
    rotate_left
    · intro wy hSw; (try dsimp only at hSw); go_simp; (try with_reducible rfl)
    try simp only [Act.put,n1,n2,n3,n4,n5,n6]
    refine tk (i := 3) (v := ?_) rfl hHeld (.inl ⟨by rfl,?_⟩) ?_
    rotate_left
    · intro wy hSw; (try dsimp only at hSw); go_simp; (try with_reducible rfl)
    try simp only [Act.put,n1,n2,n3,n4,n5,n6]
    refine tk (i := 4) (v := ?_) rfl hHeld (.inl ⟨by rfl,?_⟩) ?_
    rotate_left
    · intro wy hSw; (try dsimp only at hSw); go_simp; (try with_reducible rfl)
    try simp only [Act.put,n1,n2,n3,n4,n5,n6]
    refine tk (i := 5) (v := ?_) rfl hHeld (.inl ⟨by rfl,?_⟩) ?_
    rotate_left
    · intro wy hSw; (try dsimp only at hSw); go_simp; (try with_reducible rfl)
    try simp only [Act.put,n1,n2,n3,n4,n5,n6]
    refine tk (i := 6) (v := ?_) rfl hHeld (.inl ⟨by rfl,?_⟩) ?_
    rotate_left
    · intro wy hSw; (try dsimp only at hSw); go_simp; (try with_reducible rfl)
    try simp only [Act.put,n1,n2,n3,n4,n5,n6]
    refine tk (i := 7) (v := ?_) rfl hHeld (.inl ⟨by rfl,?_⟩) ?_
    rotate_left
    · intro wy hSw; (try dsimp only at hSw); go_simp; (try with_reducible rfl)
    try simp only [Act.put,n1,n2,n3,n4,n5,n6]
    refine tk (i := 8) (v := ?_) rfl hHeld (.inl ⟨by rfl,?_⟩) ?_
    rotate_left
    · intro wy hSw; (try dsimp only at hSw); go_simp; (try with_reducible rfl)
    try simp only [Act.put,n1,n2,n3,n4,n5,n6]
    refine tk (i := 9) (v := ?_) rfl hHeld (.inl ⟨by rfl,?_⟩) ?_
    rotate_left
    · intro wy hSw; (try dsimp only at hSw); go_simp; (try with_reducible rfl)
    try simp only [Act.put,n1,n2,n3,n4,n5,n6]
    refine tk (i := 10) (v := ?_) rfl hHeld (.inl ⟨by rfl,?_⟩) ?_
    rotate_left
    · intro wy hSw; (try dsimp only at hSw); go_simp; (try with_reducible rfl)
    try simp only [Act.put,n1,n2,n3,n4,n5,n6]
    refine tk (i := 11) (v := ?_) rfl hHeld (.inl ⟨by rfl,?_⟩) ?_
    rotate_left
    · intro wy hSw; (try dsimp only at hSw); go_simp; (try with_reducible rfl)
    try simp only [Act.put,n1,n2,n3,n4,n5,n6]
    refine tk (i := 12) (v := ?_) rfl hHeld (.inl ⟨by rfl,?_⟩) ?_
    rotate_left
    · intro wy hSw; (try dsimp only at hSw); go_simp; (try with_reducible rfl)
    try simp only [Act.put,n1,n2,n3,n4,n5,n6]
    refine tk (i := 13) (v := ?_) rfl hHeld (.inl ⟨by rfl,?_⟩) ?_
    rotate_left
    · intro wy hSw; (try dsimp only at hSw); go_simp; (try with_reducible rfl)
    try simp only [Act.put,n1,n2,n3,n4,n5,n6]
    refine tk (i := 14) (v := ?_) rfl hHeld (.inl ⟨by rfl,?_⟩) ?_
    rotate_left
    · intro wy hSw; (try dsimp only at hSw); go_simp; (try with_reducible rfl)
    try simp only [Act.put,n1,n2,n3,n4,n5,n6]
    refine tk (i := 15) (v := ?_) rfl hHeld (.inl ⟨by rfl,?_⟩) ?_
    rotate_left
    · intro wy hSw; (try dsimp only at hSw); go_simp; (try with_reducible rfl)
    try simp only [Act.put,n1,n2,n3,n4,n5,n6]
    refine wpAnyH_ready (rs := [16]) (by kernel_rfl) (by simp) ?_
    refine AllReadyH.cons rfl (fun K hK => ?_) AllReadyH.nil
    go_simp
    refine (HQ.out _ (H0.out.under ((Below.refl _ _).drew)).box (H0.out.under ((Below.refl _ _).drew)).eps).mono ?_; rintro x v ⟨rfl,hv⟩; rw [hv]; clear hv
    go_wp2_with fail
    refine hK.out _ _ ?_ (fun hHeld => ?_)
    · exact hHeld
    clear hK K
    try simp only [Act.put,n1,n2,n3,n4,n5,n6]
    refine tk (i := 17) (v := ?_) rfl hHeld (.inl ⟨by rfl,?_⟩) ?_
    rotate_left
    · intro wy hSw; (try dsimp only at hSw); go_simp; (try with_reducible rfl)
    try simp only [Act.put,n1,n2,n3,n4,n5,n6]
    refine tk (i := 18) (v := ?_) rfl hHeld (.inl ⟨by rfl,?_⟩) ?_
    rotate_left
    · intro wy hSw; (try dsimp only at hSw); go_simp; (try with_reducible rfl)
    try simp only [Act.put,n1,n2,n3,n4,n5,n6]
    refine tk (i := 19) (v := ?_) rfl hHeld (.inl ⟨by rfl,?_⟩) ?_
    rotate_left
    · intro wy hSw; (try dsimp only at hSw); go_simp; (try with_reducible rfl)
    try simp only [Act.put,n1,n2,n3,n4,n5,n6]
    refine tk (i := 20) (v := undef) rfl hHeld (.inr ⟨by rfl,rfl⟩) ?_
    try simp only [Act.put,n1,n2,n3,n4,n5,n6]
    refine tk (i := 21) (v := undef) rfl hHeld (.inr ⟨by rfl,rfl⟩) ?_
    try simp only [Act.put,n1,n2,n3,n4,n5,n6]
    refine tk (i := 22) (v := undef) rfl hHeld (.inr ⟨by rfl,rfl⟩) ?_
    try simp only [Act.put,n1,n2,n3,n4,n5,n6]
    refine tk (i := 23) (v := undef) rfl hHeld (.inr ⟨by rfl,rfl⟩) ?_
    try simp only [Act.put,n1,n2,n3,n4,n5,n6]
    refine tk (i := 24) (v := undef) rfl hHeld (.inr ⟨by rfl,rfl⟩) ?_
    try simp only [Act.put,n1,n2,n3,n4,n5,n6]
    refine tk (i := 25) (v := undef) rfl hHeld (.inr ⟨by rfl,rfl⟩) ?_
    try simp only [Act.put,n1,n2,n3,n4,n5,n6]
    refine tk (i := 26) (v := undef) rfl hHeld (.inr ⟨by rfl,rfl⟩) ?_
    try simp only [Act.put,n1,n2,n3,n4,n5,n6]
    refine tk (i := 27) (v := ?_) rfl hHeld (.inl ⟨by rfl,?_⟩) ?_
    rotate_left
    · intro wy hSw; (try dsimp only at hSw); go_simp; (try with_reducible rfl)
    try simp only [Act.put,n1,n2,n3,n4,n5,n6]
    refine tk (i := 28) (v := ?_) rfl hHeld (.inl ⟨by rfl,?_⟩) ?_
    rotate_left
    · intro wy hSw; (try dsimp only at hSw); go_simp; (try with_reducible rfl)
    try simp only [Act.put,n1,n2,n3,n4,n5,n6]
    refine wpAnyH_done (by kernel_rfl) ?_ _
    go_wp2
    go_ret
    exact ⟨ret_bool (by simp [h2]),HB.out⟩
  have h2' : (e == V) = true := by rw [beq_iff_eq]; exact h2
  clear h2
  by_cases h3 : now < u
  case neg =>
    have h3' : decide (now < u) = false := decide_eq_false h3
    refine wp_region_held_drew (S := (fun x => (∀ o,x.cell? ⟨w.heap.size,o,none⟩ = (#[.int .i64 ((P : Int) + 1),.int .i64 e,.int .i64 s,.int .i64 u,.slice ra' rl' rc',.slice la' ll' lc'] : Array Value)[o]?) ∧ (∀ o,x.cell? ⟨B,o,none⟩ = (workC ta tl tc M ra rl rc ea 4 ec now began puts)[o]?) ∧ (Instr.lookup 126 (.map (some M)) (.int .i64 ((P : Int) + 1)) false).run Tryz.prog x = .ok (.int .i64 (c : Int)) x)) (by kernel_rfl) (⟨fun o => ((((Below.refl _ _).drew)).cell (p := ⟨w.heap.size,o,none⟩) (fb_lt HT.out)).trans (fb_cell HT.out o),fun o => fb_cell (H0.out.under ((Below.refl _ _).drew)).box o,HLK.out _ (H0.out.under ((Below.refl _ _).drew)).map⟩) (fun hHeld => ?_)
    refine tk (i := 0) (v := ?_) rfl hHeld (.inl ⟨by rfl,?_⟩) ?_
    rotate_left
    · intro wy hSw; (try dsimp only at hSw); go_simp; (try with_reducible rfl)
    try simp only [Act.put,n1,n2,n3,n4,n5,n6]
    refine tk (i := 1) (v := ?_) rfl hHeld (.inl ⟨by rfl,?_⟩) ?_
    rotate_left
    · intro wy hSw; (try dsimp only at hSw); go_simp; (try with_reducible rfl)
    try simp only [Act.put,n1,n2,n3,n4,n5,n6]
    refine tk (i := 2) (v := ?_) rfl hHeld (.inl ⟨by rfl,?_⟩) ?_
    rotate_left
    · intro wy hSw; (try dsimp only at hSw); go_simp; (try with_reducible rfl)
    try simp only [Act.put,n1,n2,n3,n4,n5,n6]
    refine tk (i := 3) (v := ?_) rfl hHeld (.inl ⟨by rfl,?_⟩) ?_
    rotate_left
    · intro wy hSw; (try dsimp only at hSw); go_simp; (try with_reducible rfl)
    try simp only [Act.put,n1,n2,n3,n4,n5,n6]
    refine tk (i := 4) (v := ?_) rfl hHeld (.inl ⟨by rfl,?_⟩) ?_
    rotate_left
    · intro wy hSw; (try dsimp only at hSw); go_simp; (try with_reducible rfl)
    try simp only [Act.put,n1,n2,n3,n4,n5,n6]
    refine tk (i := 5) (v := ?_) rfl hHeld (.inl ⟨by rfl,?_⟩) ?_
    rotate_left
    · intro wy hSw; (try dsimp only at hSw); go_simp; (try with_reducible rfl)
    try simp only [Act.put,n1,n2,n3,n4,n5,n6]
    refine tk (i := 6) (v := ?_) rfl hHeld (.inl ⟨by rfl,?_⟩) ?_
    rotate_left
    · intro wy hSw; (try dsimp only at hSw); go_simp; (try with_reducible rfl)
    try simp only [Act.put,n1,n2,n3,n4,n5,n6]
    refine tk (i := 7) (v := ?_) rfl hHeld (.inl ⟨by rfl,?_⟩) ?_
    rotate_left
    · intro wy hSw; (try dsimp only at hSw); go_simp; (try with_reducible rfl)
    try simp only [Act.put,n1,n2,n3,n4,n5,n6]
    refine tk (i := 8) (v := ?_) rfl hHeld (.inl ⟨by rfl,?_⟩) ?_
    rotate_left
    · intro wy hSw; (try dsimp only at hSw); go_simp; (try with_reducible rfl)
    try simp only [Act.put,n1,n2,n3,n4,n5,n6]
    refine tk (i := 9) (v := ?_) rfl hHeld (.inl ⟨by rfl,?_⟩) ?_
    rotate_left
    · intro wy hSw; (try dsimp only at hSw); go_simp; (try with_reducible rfl)
    try simp only [Act.put,n1,n2,n3,n4,n5,n6]
    refine tk (i := 10) (v := ?_) rfl hHeld (.inl ⟨by rfl,?_⟩) ?_
    rotate_left
    · intro wy hSw; (try dsimp only at hSw); go_simp; (try with_reducible rfl)
    try simp only [Act.put,n1,n2,n3,n4,n5,n6]
    refine tk (i := 11) (v := ?_) rfl hHeld (.inl ⟨by rfl,?_⟩) ?_
    rotate_left
    · intro wy hSw; (try dsimp only at hSw); go_simp; (try with_reducible rfl)
    try simp only [Act.put,n1,n2,n3,n4,n5,n6]
    refine tk (i := 12) (v := ?_) rfl hHeld (.inl ⟨by rfl,?_⟩) ?_
    rotate_left
    · intro wy hSw; (try dsimp only at hSw); go_simp; (try with_reducible rfl)
    try simp only [Act.put,n1,n2,n3,n4,n5,n6]
    refine tk (i := 13) (v := ?_) rfl hHeld (.inl ⟨by rfl,?_⟩) ?_
    rotate_left
    · intro wy hSw; (try dsimp only at hSw); go_simp; (try with_reducible rfl)
    try simp only [Act.put,n1,n2,n3,n4,n5,n6]
    refine tk (i := 14) (v := ?_) rfl hHeld (.inl ⟨by rfl,?_⟩) ?_
    rotate_left
    · intro wy hSw; (try dsimp only at hSw); go_simp; (try with_reducible rfl)
    try simp only [Act.put,n1,n2,n3,n4,n5,n6]
    refine tk (i := 15) (v := ?_) rfl hHeld (.inl ⟨by rfl,?_⟩) ?_
    rotate_left
    · intro wy hSw; (try dsimp only at hSw); go_simp; (try with_reducible rfl)
    try simp only [Act.put,n1,n2,n3,n4,n5,n6]
    refine wpAnyH_ready (rs := [16]) (by kernel_rfl) (by simp) ?_
    refine AllReadyH.cons rfl (fun K hK => ?_) AllReadyH.nil
    go_simp
    refine (HQ.out _ (H0.out.under ((Below.refl _ _).drew)).box (H0.out.under ((Below.refl _ _).drew)).eps).mono ?_; rintro x v ⟨rfl,hv⟩; rw [hv]; clear hv
    go_wp2_with fail
    refine hK.out _ _ ?_ (fun hHeld => ?_)
    · exact hHeld
    clear hK K
    try simp only [Act.put,n1,n2,n3,n4,n5,n6]
    refine tk (i := 17) (v := ?_) rfl hHeld (.inl ⟨by rfl,?_⟩) ?_
    rotate_left
    · intro wy hSw; (try dsimp only at hSw); go_simp; (try with_reducible rfl)
    try simp only [Act.put,n1,n2,n3,n4,n5,n6]
    refine tk (i := 18) (v := ?_) rfl hHeld (.inl ⟨by rfl,?_⟩) ?_
    rotate_left
    · intro wy hSw; (try dsimp only at hSw); go_simp; (try with_reducible rfl)
    try simp only [Act.put,n1,n2,n3,n4,n5,n6]
    refine tk (i := 19) (v := ?_) rfl hHeld (.inl ⟨by rfl,?_⟩) ?_
    rotate_left
    · intro wy hSw; (try dsimp only at hSw); go_simp; (try with_reducible rfl)
    try simp only [Act.put,n1,n2,n3,n4,n5,n6]
    refine tk (i := 20) (v := ?_) rfl hHeld (.inl ⟨by rfl,?_⟩) ?_
    rotate_left
    · intro wy hSw; (try dsimp only at hSw); go_simp; (try with_reducible rfl)
    try simp only [Act.put,n1,n2,n3,n4,n5,n6]
    refine tk (i := 21) (v := ?_) rfl hHeld (.inl ⟨by rfl,?_⟩) ?_
    rotate_left
    · intro wy hSw; (try dsimp only at hSw); go_simp; (try with_reducible rfl)
    try simp only [Act.put,n1,n2,n3,n4,n5,n6]
    refine tk (i := 22) (v := ?_) rfl hHeld (.inl ⟨by rfl,?_⟩) ?_
    rotate_left
    · intro wy hSw; (try dsimp only at hSw); go_simp; (try with_reducible rfl)
    try simp only [Act.put,n1,n2,n3,n4,n5,n6]
    refine tk (i := 23) (v := ?_) rfl hHeld (.inl ⟨by rfl,?_⟩) ?_
    rotate_left
    · intro wy hSw; (try dsimp only at hSw); go_simp; (try with_reducible rfl)
    try simp only [Act.put,n1,n2,n3,n4,n5,n6]
    refine tk (i := 24) (v := ?_) rfl hHeld (.inl ⟨by rfl,?_⟩) ?_
    rotate_left
    · intro wy hSw; (try dsimp only at hSw); go_simp; (try with_reducible rfl)
    try simp only [Act.put,n1,n2,n3,n4,n5,n6]
    refine tk (i := 25) (v := ?_) rfl hHeld (.inl ⟨by rfl,?_⟩) ?_
    rotate_left
    · intro wy hSw; (try dsimp only at hSw); go_simp; (try with_reducible rfl)
    try simp only [Act.put,n1,n2,n3,n4,n5,n6]
    refine tk (i := 26) (v := ?_) rfl hHeld (.inl ⟨by rfl,?_⟩) ?_
    rotate_left
    · intro wy hSw; (try dsimp only at hSw); go_simp; (try with_reducible rfl)
    try simp only [Act.put,n1,n2,n3,n4,n5,n6]
    refine tk (i := 27) (v := ?_) rfl hHeld (.inl ⟨by rfl,?_⟩) ?_
    rotate_left
    · intro wy hSw; (try dsimp only at hSw); go_simp; (try with_reducible rfl)
    try simp only [Act.put,n1,n2,n3,n4,n5,n6]
    refine tk (i := 28) (v := ?_) rfl hHeld (.inl ⟨by rfl,?_⟩) ?_
    rotate_left
    · intro wy hSw; (try dsimp only at hSw); go_simp; (try with_reducible rfl)
    try simp only [Act.put,n1,n2,n3,n4,n5,n6]
    refine wpAnyH_done (by kernel_rfl) ?_ _
    go_wp2
    go_ret
    exact ⟨ret_bool (by first | rfl | (rw [h2',h3']; simp)),HB.out⟩
  case pos =>
    have h3' : decide (now < u) = true := decide_eq_true h3
    refine wp_region_held_drew (S := (fun x => (∀ o,x.cell? ⟨w.heap.size,o,none⟩ = (#[.int .i64 ((P : Int) + 1),.int .i64 e,.int .i64 s,.int .i64 u,.slice ra' rl' rc',.slice la' ll' lc'] : Array Value)[o]?) ∧ (∀ o,x.cell? ⟨B,o,none⟩ = (workC ta tl tc M ra rl rc ea 4 ec now began puts)[o]?) ∧ (Instr.lookup 126 (.map (some M)) (.int .i64 ((P : Int) + 1)) false).run Tryz.prog x = .ok (.int .i64 (c : Int)) x)) (by kernel_rfl) (⟨fun o => ((((Below.refl _ _).drew)).cell (p := ⟨w.heap.size,o,none⟩) (fb_lt HT.out)).trans (fb_cell HT.out o),fun o => fb_cell (H0.out.under ((Below.refl _ _).drew)).box o,HLK.out _ (H0.out.under ((Below.refl _ _).drew)).map⟩) (fun hHeld => ?_)
    refine tk (i := 0) (v := ?_) rfl hHeld (.inl ⟨by rfl,?_⟩) ?_
    rotate_left
    · intro wy hSw; (try dsimp only at hSw); go_simp; (try with_reducible rfl)
    try simp only [Act.put,n1,n2,n3,n4,n5,n6]
    refine tk (i := 1) (v := ?_) rfl hHeld (.inl ⟨by rfl,?_⟩) ?_
    rotate_left
    · intro wy hSw; (try dsimp only at hSw); go_simp; (try with_reducible rfl)
    try simp only [Act.put,n1,n2,n3,n4,n5,n6]
    refine tk (i := 2) (v := ?_) rfl hHeld (.inl ⟨by rfl,?_⟩) ?_
    rotate_left
    · intro wy hSw; (try dsimp only at hSw); go_simp; (try with_reducible rfl)
    try simp only [Act.put,n1,n2,n3,n4,n5,n6]
    refine tk (i := 3) (v := ?_) rfl hHeld (.inl ⟨by rfl,?_⟩) ?_
    rotate_left
    · intro wy hSw; (try dsimp only at hSw); go_simp; (try with_reducible rfl)
    try simp only [Act.put,n1,n2,n3,n4,n5,n6]
    refine tk (i := 4) (v := ?_) rfl hHeld (.inl ⟨by rfl,?_⟩) ?_
    rotate_left
    · intro wy hSw; (try dsimp only at hSw); go_simp; (try with_reducible rfl)
    try simp only [Act.put,n1,n2,n3,n4,n5,n6]
    refine tk (i := 5) (v := ?_) rfl hHeld (.inl ⟨by rfl,?_⟩) ?_
    rotate_left
    · intro wy hSw; (try dsimp only at hSw); go_simp; (try with_reducible rfl)
    try simp only [Act.put,n1,n2,n3,n4,n5,n6]
    refine tk (i := 6) (v := ?_) rfl hHeld (.inl ⟨by rfl,?_⟩) ?_
    rotate_left
    · intro wy hSw; (try dsimp only at hSw); go_simp; (try with_reducible rfl)
    try simp only [Act.put,n1,n2,n3,n4,n5,n6]
    refine tk (i := 7) (v := ?_) rfl hHeld (.inl ⟨by rfl,?_⟩) ?_
    rotate_left
    · intro wy hSw; (try dsimp only at hSw); go_simp; (try with_reducible rfl)
    try simp only [Act.put,n1,n2,n3,n4,n5,n6]
    refine tk (i := 8) (v := ?_) rfl hHeld (.inl ⟨by rfl,?_⟩) ?_
    rotate_left
    · intro wy hSw; (try dsimp only at hSw); go_simp; (try with_reducible rfl)
    try simp only [Act.put,n1,n2,n3,n4,n5,n6]
    refine tk (i := 9) (v := ?_) rfl hHeld (.inl ⟨by rfl,?_⟩) ?_
    rotate_left
    · intro wy hSw; (try dsimp only at hSw); go_simp; (try with_reducible rfl)
    try simp only [Act.put,n1,n2,n3,n4,n5,n6]
    refine tk (i := 10) (v := ?_) rfl hHeld (.inl ⟨by rfl,?_⟩) ?_
    rotate_left
    · intro wy hSw; (try dsimp only at hSw); go_simp; (try with_reducible rfl)
    try simp only [Act.put,n1,n2,n3,n4,n5,n6]
    refine tk (i := 11) (v := ?_) rfl hHeld (.inl ⟨by rfl,?_⟩) ?_
    rotate_left
    · intro wy hSw; (try dsimp only at hSw); go_simp; (try with_reducible rfl)
    try simp only [Act.put,n1,n2,n3,n4,n5,n6]
    refine tk (i := 12) (v := ?_) rfl hHeld (.inl ⟨by rfl,?_⟩) ?_
    rotate_left
    · intro wy hSw; (try dsimp only at hSw); go_simp; (try with_reducible rfl)
    try simp only [Act.put,n1,n2,n3,n4,n5,n6]
    refine tk (i := 13) (v := ?_) rfl hHeld (.inl ⟨by rfl,?_⟩) ?_
    rotate_left
    · intro wy hSw; (try dsimp only at hSw); go_simp; (try with_reducible rfl)
    try simp only [Act.put,n1,n2,n3,n4,n5,n6]
    refine tk (i := 14) (v := ?_) rfl hHeld (.inl ⟨by rfl,?_⟩) ?_
    rotate_left
    · intro wy hSw; (try dsimp only at hSw); go_simp; (try with_reducible rfl)
    try simp only [Act.put,n1,n2,n3,n4,n5,n6]
    refine tk (i := 15) (v := ?_) rfl hHeld (.inl ⟨by rfl,?_⟩) ?_
    rotate_left
    · intro wy hSw; (try dsimp only at hSw); go_simp; (try with_reducible rfl)
    try simp only [Act.put,n1,n2,n3,n4,n5,n6]
    refine wpAnyH_ready (rs := [16]) (by kernel_rfl) (by simp) ?_
    refine AllReadyH.cons rfl (fun K hK => ?_) AllReadyH.nil
    go_simp
    refine (HQ.out _ (H0.out.under ((Below.refl _ _).drew)).box (H0.out.under ((Below.refl _ _).drew)).eps).mono ?_; rintro x v ⟨rfl,hv⟩; rw [hv]; clear hv
    go_wp2_with fail
    refine hK.out _ _ ?_ (fun hHeld => ?_)
    · exact hHeld
    clear hK K
    try simp only [Act.put,n1,n2,n3,n4,n5,n6]
    refine tk (i := 17) (v := ?_) rfl hHeld (.inl ⟨by rfl,?_⟩) ?_
    rotate_left
    · intro wy hSw; (try dsimp only at hSw); go_simp; (try with_reducible rfl)
    try simp only [Act.put,n1,n2,n3,n4,n5,n6]
    refine tk (i := 18) (v := ?_) rfl hHeld (.inl ⟨by rfl,?_⟩) ?_
    rotate_left
    · intro wy hSw; (try dsimp only at hSw); go_simp; (try with_reducible rfl)
    try simp only [Act.put,n1,n2,n3,n4,n5,n6]
    refine tk (i := 19) (v := ?_) rfl hHeld (.inl ⟨by rfl,?_⟩) ?_
    rotate_left
    · intro wy hSw; (try dsimp only at hSw); go_simp; (try with_reducible rfl)
    try simp only [Act.put,n1,n2,n3,n4,n5,n6]
    refine tk (i := 20) (v := ?_) rfl hHeld (.inl ⟨by rfl,?_⟩) ?_
    rotate_left
    · intro wy hSw; (try dsimp only at hSw); go_simp; (try with_reducible rfl)
    try simp only [Act.put,n1,n2,n3,n4,n5,n6]
    refine tk (i := 21) (v := ?_) rfl hHeld (.inl ⟨by rfl,?_⟩) ?_
    rotate_left
    · intro wy hSw; (try dsimp only at hSw); go_simp; (try with_reducible rfl)
    try simp only [Act.put,n1,n2,n3,n4,n5,n6]
    refine tk (i := 22) (v := ?_) rfl hHeld (.inl ⟨by rfl,?_⟩) ?_
    rotate_left
    · intro wy hSw; (try dsimp only at hSw); go_simp; (try with_reducible rfl)
    try simp only [Act.put,n1,n2,n3,n4,n5,n6]
    refine tk (i := 23) (v := ?_) rfl hHeld (.inl ⟨by rfl,?_⟩) ?_
    rotate_left
    · intro wy hSw; (try dsimp only at hSw); go_simp; (try with_reducible rfl)
    try simp only [Act.put,n1,n2,n3,n4,n5,n6]
    refine tk (i := 24) (v := ?_) rfl hHeld (.inl ⟨by rfl,?_⟩) ?_
    rotate_left
    · intro wy hSw; (try dsimp only at hSw); go_simp; (try with_reducible rfl)
    try simp only [Act.put,n1,n2,n3,n4,n5,n6]
    refine tk (i := 25) (v := ?_) rfl hHeld (.inl ⟨by rfl,?_⟩) ?_
    rotate_left
    · intro wy hSw; (try dsimp only at hSw); go_simp; (try with_reducible rfl)
    try simp only [Act.put,n1,n2,n3,n4,n5,n6]
    refine tk (i := 26) (v := ?_) rfl hHeld (.inl ⟨by rfl,?_⟩) ?_
    rotate_left
    · intro wy hSw; (try dsimp only at hSw); go_simp; (try with_reducible rfl)
    try simp only [Act.put,n1,n2,n3,n4,n5,n6]
    refine tk (i := 27) (v := ?_) rfl hHeld (.inl ⟨by rfl,?_⟩) ?_
    rotate_left
    · intro wy hSw; (try dsimp only at hSw); go_simp; (try with_reducible rfl)
    try simp only [Act.put,n1,n2,n3,n4,n5,n6]
    refine tk (i := 28) (v := ?_) rfl hHeld (.inl ⟨by rfl,?_⟩) ?_
    rotate_left
    · intro wy hSw; (try dsimp only at hSw); go_simp; (try with_reducible rfl)
    try simp only [Act.put,n1,n2,n3,n4,n5,n6]
    refine wpAnyH_done (by kernel_rfl) ?_ _
    go_wp2
    go_ret
    exact ⟨ret_bool (by first | rfl | (rw [h2',h3']; simp [h1])),HB.out⟩
end Go.Proofs.YtahccighonddaaaGreatDoor
namespace Go.Proofs.YtahccighonddaaaGreatDoor
open Go.RowKit Go.Maps
attribute [local go_sem ↓] Go.wp_at_zero Go.wp_at_succ
set_option linter.unusedSimpArgs false
variable {B : Nat} {ta : Option Addr} {tl tc M : Nat} {ra : Option Addr} {rl rc : Nat} {ea : Option Addr} {ec : Nat} {now began puts : Int}
theorem jfit_no1 {es : List Int} {n : Nat} {now : Int} {t : TD} (h : txnRightB t.p t.e t.s t.u t.rs t.ls = false) : txnFitB es n now t = false := by simp [txnFitB,h]
theorem jfit_no2 {es : List Int} {n : Nat} {now V : Int} {t : TD} (hV : epochAt es t.p = V) (h : V < t.e) : txnFitB es n now t = false := by
  have : ¬ t.e ≤ epochAt es t.p := by omega
  simp [txnFitB,this]
theorem jfit_no3 {es : List Int} {n : Nat} {now : Int} {t : TD} (h : ringsIn n t.rs = false) : txnFitB es n now t = false := by simp [txnFitB,h]
theorem jfit_no4 {es : List Int} {n : Nat} {now V : Int} {t : TD} (hV : epochAt es t.p = V) (hs : t.s = 1) (h : (t.e == V) = false) : txnFitB es n now t = false := by
  rw [← hV] at h
  simp only [txnFitB,h,Bool.false_and,Bool.or_false,hs]
  simp
theorem jfit_no5 {es : List Int} {n : Nat} {now : Int} {t : TD} (hs : t.s = 1) (h : decide (now < t.u) = false) : txnFitB es n now t = false := by
  simp only [txnFitB,h,Bool.and_false,Bool.or_false,hs]
  simp
theorem jfit_yes {es : List Int} {n : Nat} {now V : Int} {t : TD} (hV : epochAt es t.p = V) (h1 : txnRightB t.p t.e t.s t.u t.rs t.ls = true) (h2 : t.e ≤ V) (h3 : ringsIn n t.rs = true) (h4 : t.s = 1 → (t.e == V) = true ∧ decide (now < t.u) = true) : txnFitB es n now t = true := by
  rw [← hV] at h2 h4
  simp only [txnFitB,h1,h3,decide_eq_true h2,Bool.true_and]
  by_cases hs : t.s = 1
  · rw [(h4 hs).1,(h4 hs).2]; simp
  · simp [hs]
theorem rings_in {rl : Nat} {rs : List Int} (h : ringsB rs = true) : (rs.all fun n => decide (0 ≤ n ∧ n < (rl : Int))) = ringsIn rl rs := by
  have h1 : rs.all rnum = true := by simp [ringsB] at h; simpa using h.1
  unfold ringsIn
  rw [Bool.eq_iff_iff,List.all_eq_true,List.all_eq_true]
  constructor
  · intro hh x hx
    have := of_decide_eq_true (hh x hx)
    exact decide_eq_true this.2
  · intro hh x hx
    have h2 := of_decide_eq_true (hh x hx)
    have h3 : rnum x = true := List.all_eq_true.1 h1 x hx
    have h4 := of_decide_eq_true h3
    exact decide_eq_true ⟨h4.1,h2⟩
def lastTo (ts : List TD) (n k : Nat) : Prop := ∀ j,j < k → ∀ t,ts[j]? = some t → t.s = 1 → lastAt ts t.p n = j
theorem lastTo_succ {ts : List TD} {n k : Nat} {t : TD} (h : lastTo ts n k) (hk : ts[k]? = some t) (hl : t.s = 1 → lastAt ts t.p n = k) : lastTo ts n (k + 1) := fun j hj u hu hs => by
  by_cases e : j = k
  · subst e
    rw [hk] at hu
    cases hu
    exact hl hs
  · exact h j (by omega) u hu hs
theorem lastTo_open {ts : List TD} {n k : Nat} (h : lastTo ts n k) (hn : k ≤ n) : openTo ts k := fun i j hij hj hi hj' h1 h2 hp => by
  have e1 := h i (by omega) _ (List.getElem?_eq_getElem hi) h1
  have e2 := lastAt_ge (List.getElem?_eq_getElem hj') h2 hp.symm n (by omega)
  omega
structure TA (w v : World) (B : Nat) (ta : Option Addr) (tl tc M : Nat) (ra : Option Addr) (rl rc : Nat) (ea : Option Addr) (ec : Nat) (now began puts : Int) (es : List Int) (ts : List TD) (X : Nat) (t : TD) : Prop where
  oa : OA v B ta tl tc M ra rl rc ea ec now began puts es ts
  txs : Txs v ta tl ts
  bel : Below w.heap.size w v
  box : v.heap[X]? = some t.obj
  fit : TFit v t
theorem TA.under {w u v : World} {es : List Int} {ts : List TD} {X : Nat} {t : TD} (h : TA w u B ta tl tc M ra rl rc ea ec now began puts es ts X t) (hb : Below u.heap.size u v) : TA w v B ta tl tc M ra rl rc ea ec now began puts es ts X t :=
  ⟨h.oa.under hb,txs_below h.txs hb,below_tr h.bel hb,(hb.block _ (fb_lt h.box)).trans h.box,h.fit.below hb⟩
set_option maxRecDepth 100000 in
set_option maxHeartbeats 8000000 in
theorem impl_txnsRight (es : List Int) (ts : List TD) (w : World) (h : OA w B ta tl tc M ra rl rc ea ec now began puts es ts) (hT : Txs w ta tl ts) (htl : tl ≤ 1048576) (hrl : rl ≤ 1048576) :
    Calls Tryz.prog 134 #[.pointer (some ⟨B,0,none⟩)] w fun x w' => x = .returned (.bool (txnsFitB es rl now ts)) ∧ Below w.heap.size w w' := by
  have cf := fun o => fb_cell h.box o
  have HO : Hid (OA w B ta tl tc M ra rl rc ea ec now began puts es ts) := h
  have HT : Hid (Txs w ta tl ts) := hT
  have HL : Hid (ts.length = tl) := hT.1
  clear h hT
  go_enter Tryz.func134,Tryz.ntmps134
  go_wp2
  clear cf
  go_loopw [11] (fun i wr => ∃ j : Nat,j ≤ tl ∧ i = .int .i64 j ∧ Hid (txnTo es rl now ts j) ∧ Hid (lastTo ts tl j) ∧ Hid (Below w.heap.size w wr)) (fun i _ => tl - (intOf i).toNat)
  case atStart => exact ⟨0,by omega,rfl,(fun j hj => by omega),(fun j hj => by omega),Below.refl _ _⟩
  case round =>
    obtain ⟨j,hj,rfl,hto,hla,hw⟩ := hrel
    by_cases hlt : j < tl
    · obtain ⟨b,off,t,hta,e1,g0,g1,g2,g3,g4,g5,hf⟩ := txsG_at keeps_tfit HT.out hw.out hlt
      have HJ : Hid (ts[j]? = some t) := e1
      have H0 : Hid (TA w (wr.alloc t.obj) B ta tl tc M ra rl rc ea ec now began puts es ts wr.heap.size t) := ⟨HO.out.under (below_tr hw.out (fbelow_new _ _)),txs_below HT.out (below_tr hw.out (fbelow_new _ _)),below_tr hw.out (fbelow_new _ _),heap_alloc_new _ _,hf.out.below (fbelow_new _ _)⟩
      subst hta
      clear hf e1 hw
      obtain ⟨p,e,s,u,ra',rl',rc',la',ll',lc',rs',ls'⟩ := t
      simp only at g0 g1 g2 g3 g4 g5
      have HR : Hid _ := fun w h => impl_txnRight (p := p) (e := e) (s := s) (u := u) (ra := ra') (rl := rl') (rc := rc') (la := la') (ll := ll') (lc := lc') rs' ls' w h
      have hRB := fun h => txnRight_bnd (p := p) (e := e) (s := s) (u := u) (rs := rs') (ls := ls') h
      obtain ⟨R,hR⟩ : ∃ R,txnRightB p e s u rs' ls' = R := ⟨_,rfl⟩
      rw [hR] at HR hRB
      go_upto_region 4 with fail
      clear g0 g1 g2 g3 g4 g5
      obtain ⟨W,hW⟩ : ∃ W,wr.alloc (txnObj p e s u ra' rl' rc' la' ll' lc') = W := ⟨_,rfl⟩
      obtain ⟨X,hX⟩ : ∃ X,wr.heap.size = X := ⟨_,rfl⟩
      have H1 : Hid (TA w W.drew B (some ⟨b,off,none⟩) tl tc M ra rl rc ea ec now began puts es ts X ⟨p,e,s,u,ra',rl',rc',la',ll',lc',rs',ls'⟩) := by rw [← hW,← hX]; exact H0.out.under ((Below.refl _ _).drew)
      rw [hW,hX]
      clear hW H0 hX
      cases R with
      | false =>
        have hE : Hid (txnsFitB es rl now ts = false) := fits_no HJ.out (jfit_no1 hR)
        clear hR hRB hto hla
        refine wp_region_held_drew (S := (fun x => ∀ o,x.cell? ⟨X,o,none⟩ = (#[.int .i64 p,.int .i64 e,.int .i64 s,.int .i64 u,.slice ra' rl' rc',.slice la' ll' lc'] : Array Value)[o]?)) (by kernel_rfl) (fun o => fb_cell H1.out.box o) (fun hHeld => ?_)
        refine tk (i := 0) (v := ?_) rfl hHeld (.inl ⟨by rfl,?_⟩) ?_
        rotate_left
        · intro wy hSw; (try dsimp only at hSw); go_simp; (try with_reducible rfl)
        try simp only [Act.put,n1,n2,n3,n4,n5,n6]
        refine wpAnyH_ready (rs := [1]) (by kernel_rfl) (by simp) ?_
        refine AllReadyH.cons rfl (fun K hK => ?_) AllReadyH.nil
        go_simp
        refine (HR.out _ H1.out.fit.tin).mono ?_; rintro x v ⟨rfl,hbv⟩; have H1 : Hid (TA w v B (some ⟨b,off,none⟩) tl tc M ra rl rc ea ec now began puts es ts X ⟨p,e,s,u,ra',rl',rc',la',ll',lc',rs',ls'⟩) := H1.out.under hbv; clear hbv
        go_wp2_with fail
        refine hK.out _ _ ?_ (fun hHeld => ?_)
        · exact fun o => fb_cell H1.out.box o
        clear hK K
        try simp only [Act.put,n1,n2,n3,n4,n5,n6]
        refine tk (i := 2) (v := ?_) rfl hHeld (.inl ⟨by rfl,?_⟩) ?_
        rotate_left
        · intro wy hSw; (try dsimp only at hSw); go_simp; (try with_reducible rfl)
        try simp only [Act.put,n1,n2,n3,n4,n5,n6]
        refine tk (i := 3) (v := ?_) rfl hHeld (.inl ⟨by rfl,?_⟩) ?_
        rotate_left
        · intro wy hSw; (try dsimp only at hSw); go_simp; (try with_reducible rfl)
        try simp only [Act.put,n1,n2,n3,n4,n5,n6]
        refine tk (i := 4) (v := undef) rfl hHeld (.inr ⟨by rfl,rfl⟩) ?_
        try simp only [Act.put,n1,n2,n3,n4,n5,n6]
        refine tk (i := 5) (v := undef) rfl hHeld (.inr ⟨by rfl,rfl⟩) ?_
        try simp only [Act.put,n1,n2,n3,n4,n5,n6]
        refine tk (i := 6) (v := undef) rfl hHeld (.inr ⟨by rfl,rfl⟩) ?_
        try simp only [Act.put,n1,n2,n3,n4,n5,n6]
        refine tk (i := 7) (v := undef) rfl hHeld (.inr ⟨by rfl,rfl⟩) ?_
        try simp only [Act.put,n1,n2,n3,n4,n5,n6]
        refine tk (i := 8) (v := undef) rfl hHeld (.inr ⟨by rfl,rfl⟩) ?_
        try simp only [Act.put,n1,n2,n3,n4,n5,n6]
        refine tk (i := 9) (v := undef) rfl hHeld (.inr ⟨by rfl,rfl⟩) ?_
        try simp only [Act.put,n1,n2,n3,n4,n5,n6]
        refine tk (i := 10) (v := undef) rfl hHeld (.inr ⟨by rfl,rfl⟩) ?_
        try simp only [Act.put,n1,n2,n3,n4,n5,n6]
        refine tk (i := 11) (v := ?_) rfl hHeld (.inl ⟨by rfl,?_⟩) ?_
        rotate_left
        · intro wy hSw; (try dsimp only at hSw); go_simp; (try with_reducible rfl)
        try simp only [Act.put,n1,n2,n3,n4,n5,n6]
        refine tk (i := 12) (v := ?_) rfl hHeld (.inl ⟨by rfl,?_⟩) ?_
        rotate_left
        · intro wy hSw; (try dsimp only at hSw); go_simp; (try with_reducible rfl)
        try simp only [Act.put,n1,n2,n3,n4,n5,n6]
        refine tk (i := 13) (v := undef) rfl hHeld (.inr ⟨by rfl,rfl⟩) ?_
        try simp only [Act.put,n1,n2,n3,n4,n5,n6]
        refine tk (i := 14) (v := undef) rfl hHeld (.inr ⟨by rfl,rfl⟩) ?_
        try simp only [Act.put,n1,n2,n3,n4,n5,n6]
        refine tk (i := 15) (v := undef) rfl hHeld (.inr ⟨by rfl,rfl⟩) ?_
        try simp only [Act.put,n1,n2,n3,n4,n5,n6]
        refine tk (i := 16) (v := undef) rfl hHeld (.inr ⟨by rfl,rfl⟩) ?_
        try simp only [Act.put,n1,n2,n3,n4,n5,n6]
        refine tk (i := 17) (v := undef) rfl hHeld (.inr ⟨by rfl,rfl⟩) ?_
        try simp only [Act.put,n1,n2,n3,n4,n5,n6]
        refine tk (i := 18) (v := ?_) rfl hHeld (.inl ⟨by rfl,?_⟩) ?_
        rotate_left
        · intro wy hSw; (try dsimp only at hSw); go_simp; (try with_reducible rfl)
        try simp only [Act.put,n1,n2,n3,n4,n5,n6]
        refine wpAnyH_done (by kernel_rfl) ?_ _
        go_wp2
        go_ret
        exact ⟨ret_bool hE.out.symm,H1.out.bel⟩
      | true =>
        have hbn := hRB rfl
        clear hRB
        obtain ⟨P,hP⟩ : ∃ P : Nat,p = (P : Int) + 1 := ⟨(p - 1).toNat,by omega⟩
        subst hP
        have hP4 : P < 4 := by omega
        have HRB : Hid (ringsB rs' = true) := hbn.2.2.2.2.1
        have hR1 : Hid (txnRightB ((P : Int) + 1) e s u rs' ls' = true) := hR
        clear hbn hR
        obtain ⟨b2,off2,V,_,hV,_⟩ := nums_at H1.out.oa.eps (Below.refl _ _) (k := P) hP4
        have hEV : Hid (epochAt es ((P : Int) + 1) = V) := epoch_at (by omega) hV
        have HV : Hid (es[P]? = some V) := hV
        have HQ : Hid _ := fun w h1 h2 => impl_epochOf (B := B) (ta := (some ⟨b,off,none⟩)) (tl := tl) (tc := tc) (M := M) (ra := ra) (rl := rl) (rc := rc) (ea := ea) (ec := ec) (now := now) (began := began) (puts := puts) es P V w h1 h2 hP4 hV
        clear hV
        by_cases hVe : V < e
        case pos =>
          have hE : Hid (txnsFitB es rl now ts = false) := fits_no HJ.out (jfit_no2 hEV.out hVe)
          have hVd : decide (V < e) = true := decide_eq_true hVe
          clear hto hla hVe
          refine wp_region_held_drew (S := (fun x => ∀ o,x.cell? ⟨X,o,none⟩ = (#[.int .i64 ((P : Int) + 1),.int .i64 e,.int .i64 s,.int .i64 u,.slice ra' rl' rc',.slice la' ll' lc'] : Array Value)[o]?)) (by kernel_rfl) (fun o => fb_cell H1.out.box o) (fun hHeld => ?_)
          refine tk (i := 0) (v := ?_) rfl hHeld (.inl ⟨by rfl,?_⟩) ?_
          rotate_left
          · intro wy hSw; (try dsimp only at hSw); go_simp; (try with_reducible rfl)
          try simp only [Act.put,n1,n2,n3,n4,n5,n6]
          refine wpAnyH_ready (rs := [1]) (by kernel_rfl) (by simp) ?_
          refine AllReadyH.cons rfl (fun K hK => ?_) AllReadyH.nil
          go_simp
          refine (HR.out _ H1.out.fit.tin).mono ?_; rintro x v ⟨rfl,hbv⟩; have H1 : Hid (TA w v B (some ⟨b,off,none⟩) tl tc M ra rl rc ea ec now began puts es ts X ⟨(P : Int) + 1,e,s,u,ra',rl',rc',la',ll',lc',rs',ls'⟩) := H1.out.under hbv; clear hbv
          go_wp2_with fail
          refine hK.out _ _ ?_ (fun hHeld => ?_)
          · exact fun o => fb_cell H1.out.box o
          clear hK K
          try simp only [Act.put,n1,n2,n3,n4,n5,n6]
          refine tk (i := 2) (v := ?_) rfl hHeld (.inl ⟨by rfl,?_⟩) ?_
          rotate_left
          · intro wy hSw; (try dsimp only at hSw); go_simp; (try with_reducible rfl)
          try simp only [Act.put,n1,n2,n3,n4,n5,n6]
          refine tk (i := 3) (v := ?_) rfl hHeld (.inl ⟨by rfl,?_⟩) ?_
          rotate_left
          · intro wy hSw; (try dsimp only at hSw); go_simp; (try with_reducible rfl)
          try simp only [Act.put,n1,n2,n3,n4,n5,n6]
          refine tk (i := 4) (v := ?_) rfl hHeld (.inl ⟨by rfl,?_⟩) ?_
          rotate_left
          · intro wy hSw; (try dsimp only at hSw); go_simp; (try with_reducible rfl)
          try simp only [Act.put,n1,n2,n3,n4,n5,n6]
          refine tk (i := 5) (v := ?_) rfl hHeld (.inl ⟨by rfl,?_⟩) ?_
          rotate_left
          · intro wy hSw; (try dsimp only at hSw); go_simp; (try with_reducible rfl)
          try simp only [Act.put,n1,n2,n3,n4,n5,n6]
          refine tk (i := 6) (v := ?_) rfl hHeld (.inl ⟨by rfl,?_⟩) ?_
          rotate_left
          · intro wy hSw; (try dsimp only at hSw); go_simp; (try with_reducible rfl)
          try simp only [Act.put,n1,n2,n3,n4,n5,n6]
          refine tk (i := 7) (v := ?_) rfl hHeld (.inl ⟨by rfl,?_⟩) ?_
          rotate_left
          · intro wy hSw; (try dsimp only at hSw); go_simp; (try with_reducible rfl)
          try simp only [Act.put,n1,n2,n3,n4,n5,n6]
          refine tk (i := 8) (v := ?_) rfl hHeld (.inl ⟨by rfl,?_⟩) ?_
          rotate_left
          · intro wy hSw; (try dsimp only at hSw); go_simp; (try with_reducible rfl)
          try simp only [Act.put,n1,n2,n3,n4,n5,n6]
          refine wpAnyH_ready (rs := [9]) (by kernel_rfl) (by simp) ?_
          refine AllReadyH.cons rfl (fun K hK => ?_) AllReadyH.nil
          go_simp
          refine (HQ.out _ H1.out.oa.box H1.out.oa.eps).mono ?_; rintro x v9 ⟨rfl,hv9⟩; rw [hv9]; clear hv9 v9
          go_wp2_with fail
          refine hK.out _ _ ?_ (fun hHeld => ?_)
          · exact hHeld
          clear hK K
          try simp only [Act.put,n1,n2,n3,n4,n5,n6]
          refine tk (i := 10) (v := ?_) rfl hHeld (.inl ⟨by rfl,?_⟩) ?_
          rotate_left
          · intro wy hSw; (try dsimp only at hSw); go_simp; (try with_reducible rfl)
          try simp only [Act.put,n1,n2,n3,n4,n5,n6]
          refine tk (i := 11) (v := ?_) rfl hHeld (.inl ⟨by rfl,?_⟩) ?_
          rotate_left
          · intro wy hSw; (try dsimp only at hSw); go_simp; (try with_reducible rfl)
          try simp only [Act.put,n1,n2,n3,n4,n5,n6]
          refine tk (i := 12) (v := ?_) rfl hHeld (.inl ⟨by rfl,?_⟩) ?_
          rotate_left
          · intro wy hSw; (try dsimp only at hSw); go_simp; (try with_reducible rfl)
          try simp only [Act.put,n1,n2,n3,n4,n5,n6]
          refine tk (i := 13) (v := undef) rfl hHeld (.inr ⟨by rfl,rfl⟩) ?_
          try simp only [Act.put,n1,n2,n3,n4,n5,n6]
          refine tk (i := 14) (v := undef) rfl hHeld (.inr ⟨by rfl,rfl⟩) ?_
          try simp only [Act.put,n1,n2,n3,n4,n5,n6]
          refine tk (i := 15) (v := undef) rfl hHeld (.inr ⟨by rfl,rfl⟩) ?_
          try simp only [Act.put,n1,n2,n3,n4,n5,n6]
          refine tk (i := 16) (v := undef) rfl hHeld (.inr ⟨by rfl,rfl⟩) ?_
          try simp only [Act.put,n1,n2,n3,n4,n5,n6]
          refine tk (i := 17) (v := undef) rfl hHeld (.inr ⟨by rfl,rfl⟩) ?_
          try simp only [Act.put,n1,n2,n3,n4,n5,n6]
          refine tk (i := 18) (v := ?_) rfl hHeld (.inl ⟨by rfl,?_⟩) ?_
          rotate_left
          · intro wy hSw; (try dsimp only at hSw); go_simp; (try with_reducible rfl)
          try simp only [Act.put,n1,n2,n3,n4,n5,n6]
          refine wpAnyH_done (by kernel_rfl) ?_ _
          go_wp2
          go_ret
          exact ⟨ret_bool hE.out.symm,H1.out.bel⟩
        have hVd : decide (V < e) = false := decide_eq_false hVe
        have HVe : Hid (e ≤ V) := by show _ ≤ _; omega
        clear hVe
        have hrl2 : rl' ≤ 1048576 := H1.out.fit.rle
        have HH : Hid _ := fun w h1 h2 => impl_hasRings (B := B) (ta := (some ⟨b,off,none⟩)) (tl := tl) (tc := tc) (M := M) (ra := ra) (rl := rl) (rc := rc) (ea := ea) (el := 4) (ec := ec) (now := now) (began := began) (puts := puts) ra' rl' rc' rs' w h1 h2 hrl2 hrl
        rw [rings_in HRB.out] at HH
        obtain ⟨I,hI⟩ : ∃ I,ringsIn rl rs' = I := ⟨_,rfl⟩
        rw [hI] at HH
        cases I with
        | false =>
          have hE : Hid (txnsFitB es rl now ts = false) := fits_no HJ.out (jfit_no3 hI)
          clear hto hla hI
          refine wp_region_held_drew (S := (fun x => ∀ o,x.cell? ⟨X,o,none⟩ = (#[.int .i64 ((P : Int) + 1),.int .i64 e,.int .i64 s,.int .i64 u,.slice ra' rl' rc',.slice la' ll' lc'] : Array Value)[o]?)) (by kernel_rfl) (fun o => fb_cell H1.out.box o) (fun hHeld => ?_)
          refine tk (i := 0) (v := ?_) rfl hHeld (.inl ⟨by rfl,?_⟩) ?_
          rotate_left
          · intro wy hSw; (try dsimp only at hSw); go_simp; (try with_reducible rfl)
          try simp only [Act.put,n1,n2,n3,n4,n5,n6]
          refine wpAnyH_ready (rs := [1]) (by kernel_rfl) (by simp) ?_
          refine AllReadyH.cons rfl (fun K hK => ?_) AllReadyH.nil
          go_simp
          refine (HR.out _ H1.out.fit.tin).mono ?_; rintro x v ⟨rfl,hbv⟩; have H1 : Hid (TA w v B (some ⟨b,off,none⟩) tl tc M ra rl rc ea ec now began puts es ts X ⟨(P : Int) + 1,e,s,u,ra',rl',rc',la',ll',lc',rs',ls'⟩) := H1.out.under hbv; clear hbv
          go_wp2_with fail
          refine hK.out _ _ ?_ (fun hHeld => ?_)
          · exact fun o => fb_cell H1.out.box o
          clear hK K
          try simp only [Act.put,n1,n2,n3,n4,n5,n6]
          refine tk (i := 2) (v := ?_) rfl hHeld (.inl ⟨by rfl,?_⟩) ?_
          rotate_left
          · intro wy hSw; (try dsimp only at hSw); go_simp; (try with_reducible rfl)
          try simp only [Act.put,n1,n2,n3,n4,n5,n6]
          refine tk (i := 3) (v := ?_) rfl hHeld (.inl ⟨by rfl,?_⟩) ?_
          rotate_left
          · intro wy hSw; (try dsimp only at hSw); go_simp; (try with_reducible rfl)
          try simp only [Act.put,n1,n2,n3,n4,n5,n6]
          refine tk (i := 4) (v := ?_) rfl hHeld (.inl ⟨by rfl,?_⟩) ?_
          rotate_left
          · intro wy hSw; (try dsimp only at hSw); go_simp; (try with_reducible rfl)
          try simp only [Act.put,n1,n2,n3,n4,n5,n6]
          refine tk (i := 5) (v := ?_) rfl hHeld (.inl ⟨by rfl,?_⟩) ?_
          rotate_left
          · intro wy hSw; (try dsimp only at hSw); go_simp; (try with_reducible rfl)
          try simp only [Act.put,n1,n2,n3,n4,n5,n6]
          refine tk (i := 6) (v := ?_) rfl hHeld (.inl ⟨by rfl,?_⟩) ?_
          rotate_left
          · intro wy hSw; (try dsimp only at hSw); go_simp; (try with_reducible rfl)
          try simp only [Act.put,n1,n2,n3,n4,n5,n6]
          refine tk (i := 7) (v := ?_) rfl hHeld (.inl ⟨by rfl,?_⟩) ?_
          rotate_left
          · intro wy hSw; (try dsimp only at hSw); go_simp; (try with_reducible rfl)
          try simp only [Act.put,n1,n2,n3,n4,n5,n6]
          refine tk (i := 8) (v := ?_) rfl hHeld (.inl ⟨by rfl,?_⟩) ?_
          rotate_left
          · intro wy hSw; (try dsimp only at hSw); go_simp; (try with_reducible rfl)
          try simp only [Act.put,n1,n2,n3,n4,n5,n6]
          refine wpAnyH_ready (rs := [9]) (by kernel_rfl) (by simp) ?_
          refine AllReadyH.cons rfl (fun K hK => ?_) AllReadyH.nil
          go_simp
          refine (HQ.out _ H1.out.oa.box H1.out.oa.eps).mono ?_; rintro x v9 ⟨rfl,hv9⟩; rw [hv9]; clear hv9 v9
          go_wp2_with fail
          refine hK.out _ _ ?_ (fun hHeld => ?_)
          · exact hHeld
          clear hK K
          try simp only [Act.put,n1,n2,n3,n4,n5,n6]
          refine tk (i := 10) (v := ?_) rfl hHeld (.inl ⟨by rfl,?_⟩) ?_
          rotate_left
          · intro wy hSw; (try dsimp only at hSw); go_simp; (try with_reducible rfl)
          try simp only [Act.put,n1,n2,n3,n4,n5,n6]
          refine tk (i := 11) (v := ?_) rfl hHeld (.inl ⟨by rfl,?_⟩) ?_
          rotate_left
          · intro wy hSw; (try dsimp only at hSw); go_simp; (try with_reducible rfl)
          try simp only [Act.put,n1,n2,n3,n4,n5,n6]
          refine tk (i := 12) (v := ?_) rfl hHeld (.inl ⟨by rfl,?_⟩) ?_
          rotate_left
          · intro wy hSw; (try dsimp only at hSw); go_simp; (try with_reducible rfl)
          try simp only [Act.put,n1,n2,n3,n4,n5,n6]
          refine tk (i := 13) (v := ?_) rfl hHeld (.inl ⟨by rfl,?_⟩) ?_
          rotate_left
          · intro wy hSw; (try dsimp only at hSw); go_simp; (try with_reducible rfl)
          try simp only [Act.put,n1,n2,n3,n4,n5,n6]
          refine tk (i := 14) (v := ?_) rfl hHeld (.inl ⟨by rfl,?_⟩) ?_
          rotate_left
          · intro wy hSw; (try dsimp only at hSw); go_simp; (try with_reducible rfl)
          try simp only [Act.put,n1,n2,n3,n4,n5,n6]
          refine tk (i := 15) (v := ?_) rfl hHeld (.inl ⟨by rfl,?_⟩) ?_
          rotate_left
          · intro wy hSw; (try dsimp only at hSw); go_simp; (try with_reducible rfl)
          try simp only [Act.put,n1,n2,n3,n4,n5,n6]
          refine wpAnyH_ready (rs := [16]) (by kernel_rfl) (by simp) ?_
          refine AllReadyH.cons rfl (fun K hK => ?_) AllReadyH.nil
          go_simp
          refine (HH.out _ H1.out.oa.box H1.out.fit.r.nums).mono ?_; rintro x v9 ⟨rfl,hv9⟩; rw [hv9]; clear hv9 v9
          go_wp2_with fail
          refine hK.out _ _ ?_ (fun hHeld => ?_)
          · exact hHeld
          clear hK K
          try simp only [Act.put,n1,n2,n3,n4,n5,n6]
          refine tk (i := 17) (v := ?_) rfl hHeld (.inl ⟨by rfl,?_⟩) ?_
          rotate_left
          · intro wy hSw; (try dsimp only at hSw); go_simp; (try with_reducible rfl)
          try simp only [Act.put,n1,n2,n3,n4,n5,n6]
          refine tk (i := 18) (v := ?_) rfl hHeld (.inl ⟨by rfl,?_⟩) ?_
          rotate_left
          · intro wy hSw; (try dsimp only at hSw); go_simp; (try with_reducible rfl)
          try simp only [Act.put,n1,n2,n3,n4,n5,n6]
          refine wpAnyH_done (by kernel_rfl) ?_ _
          go_wp2
          go_ret
          exact ⟨ret_bool hE.out.symm,H1.out.bel⟩
        | true =>
          have HI : Hid (ringsIn rl rs' = true) := hI
          clear hI
          go_cut [11,34] from 11 to 45 (fun s11 s34 wc => s11 = .int .i64 j ∧ s34 = .bool false ∧ Hid (TA w wc B (some ⟨b,off,none⟩) tl tc M ra rl rc ea ec now began puts es ts X ⟨(P : Int) + 1,e,s,u,ra',rl',rc',la',ll',lc',rs',ls'⟩))
          case first =>
            refine wp_region_held_drew (S := (fun x => ∀ o,x.cell? ⟨X,o,none⟩ = (#[.int .i64 ((P : Int) + 1),.int .i64 e,.int .i64 s,.int .i64 u,.slice ra' rl' rc',.slice la' ll' lc'] : Array Value)[o]?)) (by kernel_rfl) (fun o => fb_cell H1.out.box o) (fun hHeld => ?_)
            refine tk (i := 0) (v := ?_) rfl hHeld (.inl ⟨by rfl,?_⟩) ?_
            rotate_left
            · intro wy hSw; (try dsimp only at hSw); go_simp; (try with_reducible rfl)
            try simp only [Act.put,n1,n2,n3,n4,n5,n6]
            refine wpAnyH_ready (rs := [1]) (by kernel_rfl) (by simp) ?_
            refine AllReadyH.cons rfl (fun K hK => ?_) AllReadyH.nil
            go_simp
            refine (HR.out _ H1.out.fit.tin).mono ?_; rintro x v ⟨rfl,hbv⟩; have H1 : Hid (TA w v B (some ⟨b,off,none⟩) tl tc M ra rl rc ea ec now began puts es ts X ⟨(P : Int) + 1,e,s,u,ra',rl',rc',la',ll',lc',rs',ls'⟩) := H1.out.under hbv; clear hbv
            go_wp2_with fail
            refine hK.out _ _ ?_ (fun hHeld => ?_)
            · exact fun o => fb_cell H1.out.box o
            clear hK K
            try simp only [Act.put,n1,n2,n3,n4,n5,n6]
            refine tk (i := 2) (v := ?_) rfl hHeld (.inl ⟨by rfl,?_⟩) ?_
            rotate_left
            · intro wy hSw; (try dsimp only at hSw); go_simp; (try with_reducible rfl)
            try simp only [Act.put,n1,n2,n3,n4,n5,n6]
            refine tk (i := 3) (v := ?_) rfl hHeld (.inl ⟨by rfl,?_⟩) ?_
            rotate_left
            · intro wy hSw; (try dsimp only at hSw); go_simp; (try with_reducible rfl)
            try simp only [Act.put,n1,n2,n3,n4,n5,n6]
            refine tk (i := 4) (v := ?_) rfl hHeld (.inl ⟨by rfl,?_⟩) ?_
            rotate_left
            · intro wy hSw; (try dsimp only at hSw); go_simp; (try with_reducible rfl)
            try simp only [Act.put,n1,n2,n3,n4,n5,n6]
            refine tk (i := 5) (v := ?_) rfl hHeld (.inl ⟨by rfl,?_⟩) ?_
            rotate_left
            · intro wy hSw; (try dsimp only at hSw); go_simp; (try with_reducible rfl)
            try simp only [Act.put,n1,n2,n3,n4,n5,n6]
            refine tk (i := 6) (v := ?_) rfl hHeld (.inl ⟨by rfl,?_⟩) ?_
            rotate_left
            · intro wy hSw; (try dsimp only at hSw); go_simp; (try with_reducible rfl)
            try simp only [Act.put,n1,n2,n3,n4,n5,n6]
            refine tk (i := 7) (v := ?_) rfl hHeld (.inl ⟨by rfl,?_⟩) ?_
            rotate_left
            · intro wy hSw; (try dsimp only at hSw); go_simp; (try with_reducible rfl)
            try simp only [Act.put,n1,n2,n3,n4,n5,n6]
            refine tk (i := 8) (v := ?_) rfl hHeld (.inl ⟨by rfl,?_⟩) ?_
            rotate_left
            · intro wy hSw; (try dsimp only at hSw); go_simp; (try with_reducible rfl)
            try simp only [Act.put,n1,n2,n3,n4,n5,n6]
            refine wpAnyH_ready (rs := [9]) (by kernel_rfl) (by simp) ?_
            refine AllReadyH.cons rfl (fun K hK => ?_) AllReadyH.nil
            go_simp
            refine (HQ.out _ H1.out.oa.box H1.out.oa.eps).mono ?_; rintro x v9 ⟨rfl,hv9⟩; rw [hv9]; clear hv9 v9
            go_wp2_with fail
            refine hK.out _ _ ?_ (fun hHeld => ?_)
            · exact hHeld
            clear hK K
            try simp only [Act.put,n1,n2,n3,n4,n5,n6]
            refine tk (i := 10) (v := ?_) rfl hHeld (.inl ⟨by rfl,?_⟩) ?_
            rotate_left
            · intro wy hSw; (try dsimp only at hSw); go_simp; (try with_reducible rfl)
            try simp only [Act.put,n1,n2,n3,n4,n5,n6]
            refine tk (i := 11) (v := ?_) rfl hHeld (.inl ⟨by rfl,?_⟩) ?_
            rotate_left
            · intro wy hSw; (try dsimp only at hSw); go_simp; (try with_reducible rfl)
            try simp only [Act.put,n1,n2,n3,n4,n5,n6]
            refine tk (i := 12) (v := ?_) rfl hHeld (.inl ⟨by rfl,?_⟩) ?_
            rotate_left
            · intro wy hSw; (try dsimp only at hSw); go_simp; (try with_reducible rfl)
            try simp only [Act.put,n1,n2,n3,n4,n5,n6]
            refine tk (i := 13) (v := ?_) rfl hHeld (.inl ⟨by rfl,?_⟩) ?_
            rotate_left
            · intro wy hSw; (try dsimp only at hSw); go_simp; (try with_reducible rfl)
            try simp only [Act.put,n1,n2,n3,n4,n5,n6]
            refine tk (i := 14) (v := ?_) rfl hHeld (.inl ⟨by rfl,?_⟩) ?_
            rotate_left
            · intro wy hSw; (try dsimp only at hSw); go_simp; (try with_reducible rfl)
            try simp only [Act.put,n1,n2,n3,n4,n5,n6]
            refine tk (i := 15) (v := ?_) rfl hHeld (.inl ⟨by rfl,?_⟩) ?_
            rotate_left
            · intro wy hSw; (try dsimp only at hSw); go_simp; (try with_reducible rfl)
            try simp only [Act.put,n1,n2,n3,n4,n5,n6]
            refine wpAnyH_ready (rs := [16]) (by kernel_rfl) (by simp) ?_
            refine AllReadyH.cons rfl (fun K hK => ?_) AllReadyH.nil
            go_simp
            refine (HH.out _ H1.out.oa.box H1.out.fit.r.nums).mono ?_; rintro x v9 ⟨rfl,hv9⟩; rw [hv9]; clear hv9 v9
            go_wp2_with fail
            refine hK.out _ _ ?_ (fun hHeld => ?_)
            · exact hHeld
            clear hK K
            try simp only [Act.put,n1,n2,n3,n4,n5,n6]
            refine tk (i := 17) (v := ?_) rfl hHeld (.inl ⟨by rfl,?_⟩) ?_
            rotate_left
            · intro wy hSw; (try dsimp only at hSw); go_simp; (try with_reducible rfl)
            try simp only [Act.put,n1,n2,n3,n4,n5,n6]
            refine tk (i := 18) (v := ?_) rfl hHeld (.inl ⟨by rfl,?_⟩) ?_
            rotate_left
            · intro wy hSw; (try dsimp only at hSw); go_simp; (try with_reducible rfl)
            try simp only [Act.put,n1,n2,n3,n4,n5,n6]
            refine wpAnyH_done (by kernel_rfl) ?_ _
            go_wp2_with fail
            go_meet
            exact ⟨rfl,rfl,H1⟩
          case rest =>
          obtain ⟨rfl,rfl,H2⟩ := hcut
          clear H1 HR HQ HH hVd
          have ct := fun o => fb_cell H2.out.box o
          by_cases hs : s = 1
          case neg =>
            have hsn : (s == 1) = false := by rw [beq_eq_false_iff_ne]; exact hs
            have hT' : Hid (txnTo es rl now ts (j + 1)) := txnTo_succ hto.out HJ.out (jfit_yes hEV.out hR1.out HVe.out HI.out (fun h => absurd h hs))
            have hL' : Hid (lastTo ts tl (j + 1)) := lastTo_succ hla.out HJ.out (fun h => absurd h hs)
            clear hto hla hs
            go_wp2
            exact ⟨⟨j + 1,by omega,by go_num,hT'.out,hL'.out,H2.out.bel⟩,by simp [intOf]; omega⟩
          have hsn : (s == 1) = true := by rw [beq_iff_eq]; exact hs
          have HS : Hid (s = 1) := hs
          clear hs
          have HC : Hid _ := fun w h => impl_openRight (B := B) (ta := (some ⟨b,off,none⟩)) (tl := tl) (tc := tc) (M := M) (ra := ra) (rl := rl) (rc := rc) (ea := ea) (ec := ec) (now := now) (began := began) (puts := puts) j ⟨(P : Int) + 1,e,s,u,ra',rl',rc',la',ll',lc',rs',ls'⟩ P V es ts w h (by omega) htl rfl hP4 HV.out
          simp only at HC
          have hlg := lastAt_ge HJ.out HS.out rfl tl hlt
          have hli := lastAt_is HJ.out HS.out rfl tl hlt
          simp only at hlg hli
          have HLI : Hid _ := hli
          clear hli
          go_wp2_with fail
          refine (HC.out _ H2.out.oa).mono ?_
          rintro x v ⟨rfl,hbv⟩
          have H3 : Hid (Below w.heap.size w v) := below_tr H2.out.bel hbv
          clear hbv ct
          cases h1 : (lastAt ts ((P : Int) + 1) tl == j) with
          | false =>
            have hE : Hid (txnsFitB es rl now ts = false) := by
              obtain ⟨t2,ht2,hs2,hp2⟩ := HLI.out
              have hne : lastAt ts ((P : Int) + 1) tl ≠ j := by simpa using h1
              exact fits_two HJ.out ht2 (by omega) HS.out hs2 hp2.symm
            simp only [Bool.false_and]
            clear hto hla h1
            go_wp2
            go_ret
            exact ⟨ret_bool hE.out.symm,H3.out⟩
          | true =>
            cases h2 : (e == V) with
            | false =>
              have hE : Hid (txnsFitB es rl now ts = false) := fits_no HJ.out (jfit_no4 hEV.out HS.out h2)
              simp only [Bool.false_and,Bool.and_false]
              clear hto hla h1 h2
              go_wp2
              go_ret
              exact ⟨ret_bool hE.out.symm,H3.out⟩
            | true =>
              cases h3 : decide (now < u) with
              | false =>
                have hE : Hid (txnsFitB es rl now ts = false) := fits_no HJ.out (jfit_no5 HS.out h3)
                simp only [Bool.and_false]
                clear hto hla h1 h2 h3
                go_wp2
                go_ret
                exact ⟨ret_bool hE.out.symm,H3.out⟩
              | true =>
                have hT' : Hid (txnTo es rl now ts (j + 1)) := txnTo_succ hto.out HJ.out (jfit_yes hEV.out hR1.out HVe.out HI.out (fun _ => ⟨h2,h3⟩))
                have hL' : Hid (lastTo ts tl (j + 1)) := lastTo_succ hla.out HJ.out (fun _ => by simpa using h1)
                simp only [Bool.and_true]
                clear hto hla h1 h2 h3
                go_wp2
                exact ⟨⟨j + 1,by omega,by go_num,hT'.out,hL'.out,H3.out⟩,by simp [intOf]; omega⟩
    · have hE : Hid (txnsFitB es rl now ts = true) := fits_yes (by rw [HL.out]; omega) hto.out (lastTo_open hla.out hj)
      clear hto hla
      go_wp2
      go_ret
      exact ⟨ret_bool hE.out.symm,hw.out⟩
end Go.Proofs.YtahccighonddaaaGreatDoor
namespace Go.Proofs.YtahccighonddaaaGreatDoor
open Go.RowKit
set_option linter.unusedSimpArgs false
set_option linter.unusedVariables false
abbrev outV (ra : Option Addr) (rl rc : Nat) (ea : Option Addr) (el ec : Nat) (ta : Option Addr) (tl tc : Nat) (now n c : Int) : Value :=
  .agg #[.slice ra rl rc,.slice ea el ec,.slice ta tl tc,.int .i64 now,.int .i64 n,.int .i64 c]
abbrev outO (ra : Option Addr) (rl rc : Nat) (ea : Option Addr) (el ec : Nat) (ta : Option Addr) (tl tc : Nat) (now n c : Int) : Obj :=
  .cells #[.slice ra rl rc,.slice ea el ec,.slice ta tl tc,.int .i64 now,.int .i64 n,.int .i64 c] 33 (0,0)
abbrev illV (c : Int) : Value := outV none 0 0 none 0 0 none 0 0 0 0 c
structure FV where
  rs : List RD
  es : List Int
  ts : List TD
  now : Int
  n : Int
theorem OwnFab.mono {w : World} {base base' : Nat} {ra : Option Addr} {rl rc : Nat} {ea : Option Addr} {el ec : Nat} {ta : Option Addr} {tl tc : Nat} {rs : List RD} {es : List Int} {ts : List TD} (h : OwnFab w base ra rl rc ea el ec ta tl tc rs es ts) (hb : base' ≤ base) : OwnFab w base' ra rl rc ea el ec ta tl tc rs es ts :=
  ⟨own_base h.r hb,own_base h.e hb,own_base h.t hb,fun r hr => (h.ri r hr).mono hb,fun t ht => (h.ti t ht).mono hb,h.nd⟩
structure FD where
  ra : Option Addr
  rl : Nat
  rc : Nat
  ea : Option Addr
  el : Nat
  ec : Nat
  ta : Option Addr
  tl : Nat
  tc : Nat
  rs : List RD
  es : List Int
  ts : List TD
abbrev FD.own (d : FD) (w : World) (base : Nat) : Prop := OwnFab w base d.ra d.rl d.rc d.ea d.el d.ec d.ta d.tl d.tc d.rs d.es d.ts
abbrev FD.out (d : FD) (now n c : Int) : Value := outV d.ra d.rl d.rc d.ea d.el d.ec d.ta d.tl d.tc now n c
abbrev FD.val (d : FD) (now : Int) : Value := fabVal d.ra d.rl d.rc d.ea d.el d.ec d.ta d.tl d.tc now
structure FT where
  rs : List RD
  es : List Int
  ts : List TD
  now : Int
  n : Int
  c : Int
def ftIll (c : Int) : FT := ⟨[],[],[],0,0,c⟩
def ftOf (right : Bool) (R : Except Int FV) : FT := if right then (match R with | .error c => ftIll c | .ok F => ⟨F.rs,F.es,F.ts,F.now,F.n,0⟩) else ftIll 1
def FD.same (d : FD) (T : FT) : Prop := d.rs.map RD.strip = T.rs.map RD.strip ∧ d.es = T.es ∧ d.ts.map TD.strip = T.ts.map TD.strip
def AnsT (w w' : World) (T : FT) (x : Ending) : Prop := ∃ d : FD,x = .returned (d.out T.now T.n T.c) ∧ d.own w' w.heap.size ∧ d.same T
theorem FD.own.below {d : FD} {w w' : World} {base : Nat} (h : d.own w base) (hb : Below w.heap.size w w') : d.own w' base := OwnFab.below h hb
theorem out_ne : 33 ≠ 63 ∧ 33 ≠ 59 ∧ 33 ≠ 2 ∧ 33 ≠ 9 ∧ 33 ≠ 96 := by decide
abbrev set6 (w : World) (b : Nat) (v0 v1 v2 v3 v4 v5 : Value) : World := (((((w.setCell ⟨b,0,none⟩ v0).setCell ⟨b,1,none⟩ v1).setCell ⟨b,2,none⟩ v2).setCell ⟨b,3,none⟩ v3).setCell ⟨b,4,none⟩ v4).setCell ⟨b,5,none⟩ v5
theorem grown_set6o (w : World) (b : Nat) (v0 v1 v2 v3 v4 v5 : Value) : w.grownBy (set6 w b v0 v1 v2 v3 v4 v5) (some b) :=
  (((((grown_setc w b 0 v0).trans (grown_setc _ b 1 v1)).trans (grown_setc _ b 2 v2)).trans (grown_setc _ b 3 v3)).trans (grown_setc _ b 4 v4)).trans (grown_setc _ b 5 v5)
theorem below_set6o {w v : World} (h : Below w.heap.size w v) {b : Nat} (hb : w.heap.size ≤ b) (v0 v1 v2 v3 v4 v5 : Value) : Below w.heap.size w (set6 v b v0 v1 v2 v3 v4 v5) :=
  (((((h.setCell (p := ⟨b,0,none⟩) hb _).setCell (p := ⟨b,1,none⟩) hb _).setCell (p := ⟨b,2,none⟩) hb _).setCell (p := ⟨b,3,none⟩) hb _).setCell (p := ⟨b,4,none⟩) hb _).setCell (p := ⟨b,5,none⟩) hb _
end Go.Proofs.YtahccighonddaaaGreatDoor
