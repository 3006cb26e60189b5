import Derived.Test.YtahccighonddaaaGreatDoorRingPut
import Derived.Test.YtahccighonddaaaGreatDoorSpecFollow
import Derived.Test.YtahccighonddaaaGreatDoorRecSpec2
import Derived.Deep.RegionLaw
namespace Go.Proofs.YtahccighonddaaaGreatDoor
open Go.RowKit
variable {cap first : Int} {ra ca : Option Addr} {rl rc cl cc : Nat}
abbrev W3 (w : World) (cap first : Int) (ra : Option Addr) (rl rc : Nat) (ca : Option Addr) (cl cc : Nat) (k t : Int) (d : ByteArray) : World := ((w.alloc (ringObj cap first ra rl rc ca cl cc)).alloc (precObj k t d)).alloc outObj0
theorem w3_below (w : World) (cap first : Int) (ra : Option Addr) (rl rc : Nat) (ca : Option Addr) (cl cc : Nat) (k t : Int) (d : ByteArray) : Below w.heap.size w (W3 w cap first ra rl rc ca cl cc k t d) := (((Below.refl _ _).alloc (Nat.le_refl _) _).alloc (by simp) _).alloc (by simp; omega) _
theorem ans_put {w W : World} {cap first : Int} {recs rs : List ByteArray} {curs : List (Int × Int)} {a b : Option Addr} {n q m p base : Nat} {r : RO} (hr : r = RO.ring cap first recs curs) (hc : rs = recs) (hn : rs.length = n) (hm : curs.length = m) (ho : OwnRing W base a n q b m p (rs.map Value.string) (curCells curs)) (hB : Below w.heap.size w W) (j : Nat) (hj : w.heap.size ≤ j) (hb : j < base) (v0 v1 v2 v3 v4 v5 v6 v7 : Value) :
    Answers w (set8 W j v0 v1 v2 v3 v4 v5 v6 v7) (.returned (ringOutV cap first a n q b m p 0 0 ⟨#[]⟩ 0)) r := by
  subst hr hc hn hm
  exact ans_ring (RO.ring cap first rs curs) ho hB j hj hb _ _ _ _ _ _ _ _
set_option maxRecDepth 100000 in
set_option maxHeartbeats 4000000 in
theorem impl_ringPut (recs : List ByteArray) (curs : List (Int × Int)) (k t : Int) (d : ByteArray) (w : World) (hi : RFit w ra rl rc ca cl cc recs curs) (hd : d.size ≤ maxLen) (hT : utabs w) :
    Calls Tryz.prog 148 #[ringV cap first ra rl rc ca cl cc, recV k t d] w fun e w' => Answers w w' e (putR cap first recs curs k t d) := by
  have HI : Hid (RFit w ra rl rc ca cl cc recs curs) := hi
  have HT : Hid (utabs w) := hT
  have hcl : cl ≤ 1048576 := hi.cle
  have hrl : rl ≤ 1048576 := hi.rle
  have HL : Hid (curs.length = cl) := hi.cur.curs.1
  have HRL : Hid (recs.length = rl) := hi.str.strs.1
  have HRR0 : Hid _ := fun w h => impl_recRight k t d w hd h
  clear hi hT
  have HB0 : Hid (Below w.heap.size w (W3 w cap first ra rl rc ca cl cc k t d)) := w3_below ..
  go_enter Tryz.func148, Tryz.ntmps148
  go_wp2_with fail
  refine (impl_atWork _).mono ?_
  rintro e w1 ⟨rfl, hb1, hw1, hz1⟩
  obtain ⟨b, hb⟩ : ∃ b, (W3 w cap first ra rl rc ca cl cc k t d).heap.size + 1 = b := ⟨_, rfl⟩
  have hbb : w.heap.size + 3 ≤ b := by rw [← hb]; simp
  rw [hb] at hw1 ⊢
  have HA : Hid _ := fun (_ : Unit) => impl_asked recs curs b w w1 HI.out.rin HT.out (below_tr HB0.out hb1) (by omega) hw1
  have HK : Hid (∀ w2, w1.grownBy w2 (some b) → Below (W3 w cap first ra rl rc ca cl cc k t d).heap.size (W3 w cap first ra rl rc ca cl cc k t d) w2) := fun w2 hg => keep_blocks hb1 hg (by simp; omega)
  clear hb1 hw1 hz1 hb
  obtain ⟨R, hR⟩ : ∃ R, ringRightB cap first recs curs = R := ⟨_, rfl⟩
  obtain ⟨E, hE⟩ : ∃ E, recRightB k t d = E := ⟨_, rfl⟩
  have HF : Hid (putR cap first recs curs k t d = if R = false ∨ E = false then RO.ill 1 else if (recs.length : Int) = cap ∨ first + (recs.length : Int) = 1000000 then RO.ill 9 else RO.ring cap first (recs ++ [recText k t d]) curs) := by rw [← hR, ← hE]; rfl
  rw [hR] at HA
  rw [hE] at HRR0
  have HRR : Hid (R = true → (0 ≤ first ∧ first ≤ 1000000) ∧ (4 ≤ cap ∧ cap ≤ 16) ∧ (rl : Int) ≤ cap ∧ first + (rl : Int) ≤ 1000000) := fun h => by have := right_first (hR.trans h); rw [HRL.out] at this; exact ⟨this.1, this.2.1, this.2.2.1, this.2.2.2.1⟩
  clear hR hE
  go_wp2_with fail
  refine (HA.out ()).mono ?_
  rintro e w2 ⟨rfl, hA2, hg2⟩
  have HA2 : Hid (Asked w w2 b cap first ra rl rc ca cl cc curs) := hA2
  have HW2 : Hid (Below (W3 w cap first ra rl rc ca cl cc k t d).heap.size (W3 w cap first ra rl rc ca cl cc k t d) w2) := HK.out w2 hg2
  clear hA2 hg2 HA HK
  have hc2 := fun o => HW2.out.cell (p := ⟨w.heap.size + 1 + 1, o, none⟩) (by simp)
  have hf2 := fun o => HW2.out.frozen (p := ⟨w.heap.size + 1 + 1, o, none⟩) (by simp)
  have hd2 := fun o => HW2.out.cell (p := ⟨w.heap.size + 1, o, none⟩) (by simp only [World.size_alloc]; omega)
  cases R
  · have hE : Hid (putR cap first recs curs k t d = RO.ill 1) := HF.out.trans (if_pos (.inl rfl))
    clear HF
    go_wp2
    refine bodyPost_ret (v := ringIll 1) (by simp [results, Tryz.results148, go_sem, hc2]) rfl ?_
    rw [hE.out]
    exact ans_ill 1 HA2.out.below _ (by omega) _ _ _ _ _ _ _ _
  · obtain ⟨HFT, HCP, hrc, hen⟩ := HRR.out rfl
    clear HRR
    obtain ⟨d0, l0, hW, hK⟩ := HA2.out.work
    have HW : Hid (Work w2 b cap first ra rl rc ca cl cc d0 0 l0) := hW
    clear hW hK
    go_wp2_with fail
    refine (HRR0.out _ (utabs_below HT.out HA2.out.below)).mono ?_
    rintro e w3 ⟨rfl, hb3⟩
    have HB3 : Hid (Below w.heap.size w w3) := below_tr HA2.out.below hb3
    have HW3 : Hid (Below (W3 w cap first ra rl rc ca cl cc k t d).heap.size (W3 w cap first ra rl rc ca cl cc k t d) w3) := below_tr HW2.out hb3
    have HWk3 : Hid (Work w3 b cap first ra rl rc ca cl cc d0 0 l0) := HW.out.below hb3
    clear hb3 HW hc2 hf2 hd2
    have hc3 := fun o => HW3.out.cell (p := ⟨w.heap.size + 1 + 1, o, none⟩) (by simp)
    have hf3 := fun o => HW3.out.frozen (p := ⟨w.heap.size + 1 + 1, o, none⟩) (by simp)
    cases E
    · have hE : Hid (putR cap first recs curs k t d = RO.ill 1) := HF.out.trans (if_pos (.inr rfl))
      clear HF
      go_wp2
      refine bodyPost_ret (v := ringIll 1) (by simp [results, Tryz.results148, go_sem, hc3]) rfl ?_
      rw [hE.out]
      exact ans_ill 1 HB3.out _ (by omega) _ _ _ _ _ _ _ _
    · have HF2 : Hid (putR cap first recs curs k t d = if (recs.length : Int) = cap ∨ first + (recs.length : Int) = 1000000 then RO.ill 9 else RO.ring cap first (recs ++ [recText k t d]) curs) := HF.out.trans (if_neg (by simp))
      clear HF
      go_wp2_with fail
      refine (impl_room b d0 0 l0 _ HWk3.out (by omega) hrl).mono ?_
      rintro e w4 ⟨rfl, hb4⟩
      have HB4 : Hid (Below w.heap.size w w4) := below_tr HB3.out hb4
      have HW4 : Hid (Below (W3 w cap first ra rl rc ca cl cc k t d).heap.size (W3 w cap first ra rl rc ca cl cc k t d) w4) := below_tr HW3.out hb4
      have HWk4 : Hid (Work w4 b cap first ra rl rc ca cl cc d0 0 l0) := HWk3.out.below hb4
      clear hb4 hc3 hf3 HWk3
      have hc4 := fun o => HW4.out.cell (p := ⟨w.heap.size + 1 + 1, o, none⟩) (by simp)
      have hf4 := fun o => HW4.out.frozen (p := ⟨w.heap.size + 1 + 1, o, none⟩) (by simp)
      by_cases h1 : (rl : Int) = cap
      · have hE : Hid (putR cap first recs curs k t d = RO.ill 9) := HF2.out.trans (if_pos (.inl (by rw [HRL.out]; exact h1)))
        have h1b : (cap - (rl : Int) == 0) = true := by rw [beq_iff_eq]; omega
        clear HF2
        go_wp2
        refine bodyPost_ret (v := ringIll 9) (by simp [results, Tryz.results148, go_sem, hc4]) rfl ?_
        rw [hE.out]
        exact ans_ill 9 HB4.out _ (by omega) _ _ _ _ _ _ _ _
      · have h1b : (cap - (rl : Int) == 0) = false := by rw [beq_eq_false_iff_ne]; omega
        go_wp2_with fail
        refine (impl_end b d0 0 l0 _ HWk4.out HFT hrl).mono ?_
        rintro e w5 ⟨rfl, hb5⟩
        have HB5 : Hid (Below w.heap.size w w5) := below_tr HB4.out hb5
        have HW5 : Hid (Below (W3 w cap first ra rl rc ca cl cc k t d).heap.size (W3 w cap first ra rl rc ca cl cc k t d) w5) := below_tr HW4.out hb5
        have HWk5 : Hid (Work w5 b cap first ra rl rc ca cl cc d0 0 l0) := HWk4.out.below hb5
        clear hb5 hc4 hf4 HWk4
        have hc5 := fun o => HW5.out.cell (p := ⟨w.heap.size + 1 + 1, o, none⟩) (by simp)
        have hf5 := fun o => HW5.out.frozen (p := ⟨w.heap.size + 1 + 1, o, none⟩) (by simp)
        by_cases h2 : first + (rl : Int) = 1000000
        · have hE : Hid (putR cap first recs curs k t d = RO.ill 9) := HF2.out.trans (if_pos (.inr (by rw [HRL.out]; exact h2)))
          have h2b : (first + (rl : Int) == 1000000) = true := by rw [beq_iff_eq]; omega
          clear HF2
          go_wp2
          refine bodyPost_ret (v := ringIll 9) (by simp [results, Tryz.results148, go_sem, hc5]) rfl ?_
          rw [hE.out]
          exact ans_ill 9 HB5.out _ (by omega) _ _ _ _ _ _ _ _
        · have h2b : (first + (rl : Int) == 1000000) = false := by rw [beq_eq_false_iff_ne]; omega
          have hE : Hid (putR cap first recs curs k t d = RO.ring cap first (recs ++ [recText k t d]) curs) := HF2.out.trans (if_neg (by rw [HRL.out]; omega))
          clear HF2
          have hd5 := fun o => HW5.out.cell (p := ⟨w.heap.size + 1, o, none⟩) (by simp only [World.size_alloc]; omega)
          go_wp2_with fail
          refine (impl_withRec b d0 0 l0 recs k t d _ HWk5.out (HI.out.str.below HB5.out) hrl HI.out.rcm (utabs_below HT.out HB5.out) hd).mono ?_
          rintro e w6 ⟨a6, c6, rfl, hs6, hb6⟩
          have HB6 : Hid (Below w.heap.size w w6) := below_tr HB5.out hb6
          have HW6 : Hid (Below (W3 w cap first ra rl rc ca cl cc k t d).heap.size (W3 w cap first ra rl rc ca cl cc k t d) w6) := below_tr HW5.out hb6
          have HS6 : Hid (StrIn w6 a6 (rl + 1) c6 (recs ++ [recText k t d])) := hs6
          have HSZ : Hid (∀ s ∈ recs ++ [recText k t d], s.size ≤ 1048576) := fun s hs => by
            rcases List.mem_append.1 hs with h | h
            · exact HI.out.sz s h
            · rw [List.mem_singleton.1 h]; have := recText_size k t d; omega
          clear hb6 hs6 hc5 hf5 hd5
          go_wp2_with fail
          refine (impl_copyRing cap first a6 (rl + 1) c6 ca cl cc (recs ++ [recText k t d]) curs _ HS6.out (HI.out.cur.below HB6.out) HSZ.out (by omega) (by omega)).mono ?_
          rintro e w7 ⟨a, q, c, p, rfl, ho7, hb7⟩
          have HB7 : Hid (Below w.heap.size w w7) := below_tr HB6.out hb7
          have HW7 : Hid (Below (W3 w cap first ra rl rc ca cl cc k t d).heap.size (W3 w cap first ra rl rc ca cl cc k t d) w7) := below_tr HW6.out hb7
          have HO7 : Hid (OwnRing w7 w6.heap.size a (rl + 1) q c cl p ((recs ++ [recText k t d]).map Value.string) (curCells curs)) := ho7
          have hz6 : w.heap.size + 1 + 1 < w6.heap.size := by have h := HW6.out.size; simp at h; omega
          clear hb7 ho7
          have hc7 := fun o => HW7.out.cell (p := ⟨w.heap.size + 1 + 1, o, none⟩) (by simp)
          have hf7 := fun o => HW7.out.frozen (p := ⟨w.heap.size + 1 + 1, o, none⟩) (by simp)
          go_wp2
          refine bodyPost_ret (v := ringOutV cap first a (rl + 1) q c cl p 0 0 ⟨#[]⟩ 0) (by simp [results, Tryz.results148, go_sem, hc7]) rfl ?_
          exact ans_put hE.out rfl (by rw [List.length_append, HRL.out]; rfl) HL.out HO7.out HB7.out _ (by omega) hz6 _ _ _ _ _ _ _ _
end Go.Proofs.YtahccighonddaaaGreatDoor
namespace Go.Proofs.YtahccighonddaaaGreatDoor
open Go.RowKit
variable {cap first : Int} {ra ca : Option Addr} {rl rc cl cc : Nat}
theorem spec_lroom (w : World) (h : -100 ≤ cap ∧ cap ≤ 100) (hl : rl ≤ 1048576) :
    Calls Tryz.prog 34 #[ringV cap first ra rl rc ca cl cc] w fun e w' => e = .returned (.int .i64 (cap - (rl : Int))) ∧ Below w.heap.size w w' := by
  go_enter Tryz.func34, Tryz.ntmps34
  go_wp2
  go_ret
  exact ⟨rfl, (Below.refl _ _).alloc (Nat.le_refl _) _⟩
structure PO (w u w4 wr : World) (o : Obj) (a : Option Addr) (n q : Nat) (xs : List Value) (c : Option Addr) (m p : Nat) (ys : List Value) : Prop where
  bu : Below u.heap.size u wr
  bw : Below w.heap.size w wr
  bo : wr.heap[w4.heap.size]? = some o
  own : OwnRing wr u.heap.size a n q c m p xs ys
  lta : ∀ g, (Value.slice a n q).ownBlock = some g → g < w4.heap.size
  ltc : ∀ g, (Value.slice c m p).ownBlock = some g → g < w4.heap.size
  size : w4.heap.size + 1 ≤ wr.heap.size
  le : u.heap.size ≤ w4.heap.size
  lw : w.heap.size ≤ w4.heap.size
  wu : w.heap.size ≤ u.heap.size
theorem po_start {w u w3 w4 : World} {o : Obj} {a c : Option Addr} {n q m p : Nat} {xs ys : List Value} (hB : Below w.heap.size w w4) (hW : Below u.heap.size u w4) (ho : OwnRing w4 w3.heap.size a n q c m p xs ys) (h3 : u.heap.size ≤ w3.heap.size) (hwu : w.heap.size ≤ u.heap.size) : PO w u w4 (w4.alloc o) o a n q xs c m p ys :=
  ⟨hW.alloc hW.size o, hB.alloc hB.size o, heap_alloc_new _ _, ⟨(ho.1.mono h3).alloc o, (ho.2.mono h3).alloc o⟩, fun g e' => (ho.1.lt g e').2, fun g e' => (ho.2.lt g e').2, by simp, hW.size, hB.size, hwu⟩
theorem PO.under {w u w4 wr wx : World} {o : Obj} {a c : Option Addr} {n q m p : Nat} {xs ys : List Value} (h : PO w u w4 wr o a n q xs c m p ys) (hb : Below wr.heap.size wr wx) : PO w u w4 wx o a n q xs c m p ys :=
  ⟨below_tr h.bu hb, below_tr h.bw hb, blk1 h.bo hb, ⟨h.own.1.kept (below_grown hb) (by cases (Value.slice a n q).ownBlock <;> simp), h.own.2.kept (below_grown hb) (by cases (Value.slice c m p).ownBlock <;> simp)⟩, h.lta, h.ltc, Nat.le_trans h.size hb.size, h.le, h.lw, h.wu⟩
theorem po_app {w u w4 wr w2 : World} {cap first : Int} {a c a2 : Option Addr} {n q m p q2 : Nat} {xs ys : List Value} {S : ByteArray} {x : Obj} (h : PO w u w4 wr (ringObj cap first a n q c m p) a n q xs c m p ys) (ho : w2.ownsRow u.heap.size 9 1 (.slice a2 (n + 1) q2) (n + 1) (xs ++ [.string S])) (hg : (wr.alloc x).grownBy w2 (Value.slice a n q).ownBlock) :
    (∀ o, w2.cell? ⟨w4.heap.size, o, none⟩ = #[Value.int .i64 cap, .int .i64 first, .slice a n q, .slice c m p][o]?) ∧ (∀ o, w2.frozen? ⟨w4.heap.size, o, none⟩ = false) ∧
    OwnRing (w2.setCell ⟨w4.heap.size, 2, none⟩ (.slice a2 (n + 1) q2)) u.heap.size a2 (n + 1) q2 c m p (xs ++ [.string S]) ys ∧ Below w.heap.size w (w2.setCell ⟨w4.heap.size, 2, none⟩ (.slice a2 (n + 1) q2)) ∧ Below u.heap.size u (w2.setCell ⟨w4.heap.size, 2, none⟩ (.slice a2 (n + 1) q2)) ∧ (w2.setCell ⟨w4.heap.size, 2, none⟩ (.slice a2 (n + 1) q2)).heap[w4.heap.size]? = some (ringObj cap first a2 (n + 1) q2 c m p) := by
  have hle := h.le
  have hlw := h.lw
  have hz := h.size
  have hzz : (wr.alloc x).heap.size = wr.heap.size + 1 := World.size_alloc _ _
  have hr : ∀ j, (Value.slice a n q).ownBlock = some j → u.heap.size ≤ j ∧ j < w4.heap.size := fun j e' => ⟨(h.own.1.lt j e').1, h.lta j e'⟩
  have hbo : w2.heap[w4.heap.size]? = some (ringObj cap first a n q c m p) := (hg.block _ (by omega) (fun e' => by have := hr _ e'.symm; omega)).trans ((Below.heap_alloc _ _ _ (by omega)).trans h.bo)
  have hy : w2.ownsRow u.heap.size 96 2 (.slice c m p) m ys := (h.own.2.alloc x).kept hg (own_apart' h.own.1 h.own.2)
  have hwu := h.wu
  have hbw : Below w.heap.size w w2 := (h.bw.alloc (by omega) x).grown hg (by omega) (fun j e' => by have := hr j e'; omega)
  have hbu : Below u.heap.size u w2 := (h.bu.alloc (by omega) x).grown hg (by omega) (fun j e' => (hr j e').1)
  have sto : ∀ {e size k : Nat} {v : Value} {zs : List Value}, w2.ownsRow u.heap.size e size v k zs → (∀ g, v.ownBlock = some g → g ≠ w4.heap.size) → (w2.setCell ⟨w4.heap.size, 2, none⟩ (.slice a2 (n + 1) q2)).ownsRow u.heap.size e size v k zs := fun {e size k v zs} hv hn => by
    refine ⟨hv.1, ?_⟩
    rcases hv.2 with hn' | ⟨g, cap', cur, e', hb', hg', rest⟩
    · exact .inl hn'
    · exact .inr ⟨g, cap', cur, e', hb', (Below.heap_setCell w2 ⟨w4.heap.size, 2, none⟩ _ g (hn g (by rw [e']; rfl))).trans hg', rest⟩
  refine ⟨fun o => cell_of_block0 hbo o, fun o => unfrozen_of_block0 hbo o, ⟨sto ho fun g e' e2 => ?_, sto hy fun g e' e2 => ?_⟩, hbw.setCell (p := ⟨w4.heap.size, 2, none⟩) hlw _, hbu.setCell (p := ⟨w4.heap.size, 2, none⟩) hle _, heap_setCell_same _ _ 2 _ _ _ hbo⟩
  · subst e2
    rcases ho.2 with ⟨e1, _⟩ | ⟨g', cap', cur, e1, hb', hg', rest⟩
    · rw [e1] at e'; cases e'
    · rw [e1] at e'
      cases e'
      have h9 := hbo.symm.trans hg'
      simp at h9
  · have := h.ltc g e'
    omega
set_option maxRecDepth 100000 in
set_option maxHeartbeats 4000000 in
theorem spec_lput (recs : List ByteArray) (curs : List (Int × Int)) (k t : Int) (d : ByteArray) (w : World) (hi : RFit w ra rl rc ca cl cc recs curs) (hR : ringRightB cap first recs curs = true) (hE : recRightB k t d = true) :
    Calls Tryz.prog 36 #[ringV cap first ra rl rc ca cl cc, recV k t d] w fun e w' => Answers w w' e (putR cap first recs curs k t d) := by
  obtain ⟨i0, hi0, hz0, hz1, hz2⟩ := info_parts info_str
  have HI : Hid (RFit w ra rl rc ca cl cc recs curs) := hi
  have hcl : cl ≤ 1048576 := hi.cle
  have hrl : rl ≤ 1048576 := hi.rle
  have HL : Hid (curs.length = cl) := hi.cur.curs.1
  have HRL : Hid (recs.length = rl) := hi.str.strs.1
  have HF2 : Hid (putR cap first recs curs k t d = if (recs.length : Int) = cap ∨ first + (recs.length : Int) = 1000000 then RO.ill 9 else RO.ring cap first (recs ++ [recText k t d]) curs) := by show putR cap first recs curs k t d = _; unfold putR; rw [hR, hE]; rfl
  have HBY : Hid (∀ w, Calls Tryz.prog 82 #[recV k t d] w fun e w' => e = .returned (.string (recText k t d)) ∧ Below w.heap.size w w') := fun w => by
    have h := spec_l02Bytes k t d w hE
    have e1 : (⟨(sealBytes (recBody k t d.data.toList)).toArray⟩ : ByteArray) = recText k t d := by unfold recText recBytes; rw [if_pos hE]
    rw [e1] at h
    exact h
  have hrf := right_first hR
  rw [HRL.out] at hrf
  obtain ⟨HFT, HCP, hrc, hen, _⟩ := hrf
  clear hi hR hE
  have HB0 : Hid (Below w.heap.size w (W3 w cap first ra rl rc ca cl cc k t d)) := w3_below ..
  go_enter Tryz.func36, Tryz.ntmps36
  go_wp2_with fail
  refine (spec_lroom _ (by omega) hrl).mono ?_
  rintro e w2 ⟨rfl, hb2⟩
  have HB2 : Hid (Below w.heap.size w w2) := below_tr HB0.out hb2
  have HW2 : Hid (Below (W3 w cap first ra rl rc ca cl cc k t d).heap.size (W3 w cap first ra rl rc ca cl cc k t d) w2) := hb2
  clear hb2
  have hc2 := fun o => HW2.out.cell (p := ⟨w.heap.size, o, none⟩) (by simp only [World.size_alloc]; omega)
  by_cases h1 : (rl : Int) = cap
  · have hE : Hid (putR cap first recs curs k t d = RO.ill 9) := HF2.out.trans (if_pos (.inl (by rw [HRL.out]; exact h1)))
    have h1b : (cap - (rl : Int) == 0) = true := by rw [beq_iff_eq]; omega
    clear HF2
    go_wp2_with fail
    refine (spec_ill 9 _).mono ?_
    rintro e w3 ⟨rfl, hb3⟩
    have HB3 : Hid (Below w.heap.size w w3) := below_tr HB2.out hb3
    have HW3 : Hid (Below (W3 w cap first ra rl rc ca cl cc k t d).heap.size (W3 w cap first ra rl rc ca cl cc k t d) w3) := below_tr HW2.out hb3
    clear hb3 hc2
    have hc3 := fun o => HW3.out.cell (p := ⟨w.heap.size + 1 + 1, o, none⟩) (by simp)
    have hf3 := fun o => HW3.out.frozen (p := ⟨w.heap.size + 1 + 1, o, none⟩) (by simp)
    go_wp2
    refine bodyPost_ret (v := ringIll 9) (by simp [results, Tryz.results36, go_sem, hc3]) rfl ?_
    rw [hE.out]
    exact ans_ill 9 HB3.out _ (by omega) _ _ _ _ _ _ _ _
  · have h1b : (cap - (rl : Int) == 0) = false := by rw [beq_eq_false_iff_ne]; omega
    go_wp2_with fail
    refine (spec_end cap first ra rl rc ca cl cc _ HFT hrl).mono ?_
    rintro e w3 ⟨rfl, hb3⟩
    have HB3 : Hid (Below w.heap.size w w3) := below_tr HB2.out hb3
    have HW3 : Hid (Below (W3 w cap first ra rl rc ca cl cc k t d).heap.size (W3 w cap first ra rl rc ca cl cc k t d) w3) := below_tr HW2.out hb3
    clear hb3 hc2
    have hc3 := fun o => HW3.out.cell (p := ⟨w.heap.size, o, none⟩) (by simp only [World.size_alloc]; omega)
    by_cases h2 : first + (rl : Int) = 1000000
    · have hE : Hid (putR cap first recs curs k t d = RO.ill 9) := HF2.out.trans (if_pos (.inr (by rw [HRL.out]; exact h2)))
      have h2b : (1000000 : Int) ≤ first + (rl : Int) := by omega
      clear HF2
      go_wp2_with fail
      refine (spec_ill 9 _).mono ?_
      rintro e w4 ⟨rfl, hb4⟩
      have HB4 : Hid (Below w.heap.size w w4) := below_tr HB3.out hb4
      have HW4 : Hid (Below (W3 w cap first ra rl rc ca cl cc k t d).heap.size (W3 w cap first ra rl rc ca cl cc k t d) w4) := below_tr HW3.out hb4
      clear hb4 hc3
      have hc4 := fun o => HW4.out.cell (p := ⟨w.heap.size + 1 + 1, o, none⟩) (by simp)
      have hf4 := fun o => HW4.out.frozen (p := ⟨w.heap.size + 1 + 1, o, none⟩) (by simp)
      go_wp2
      refine bodyPost_ret (v := ringIll 9) (by simp [results, Tryz.results36, go_sem, hc4]) rfl ?_
      rw [hE.out]
      exact ans_ill 9 HB4.out _ (by omega) _ _ _ _ _ _ _ _
    · have h2b : ¬ (1000000 : Int) ≤ first + (rl : Int) := by omega
      have hE : Hid (putR cap first recs curs k t d = RO.ring cap first (recs ++ [recText k t d]) curs) := HF2.out.trans (if_neg (by rw [HRL.out]; omega))
      clear HF2
      obtain ⟨S, hS⟩ : ∃ S, recText k t d = S := ⟨_, rfl⟩
      rw [hS] at HBY hE
      clear hS
      go_wp2_with fail
      refine (spec_copy recs curs _ (HI.out.str.below HB3.out) (HI.out.cur.below HB3.out) (by omega) (by omega)).mono ?_
      rintro e w4 ⟨a4, q4, c4, p4, rfl, ho4, hb4⟩
      have HPO : Hid (PO w (W3 w cap first ra rl rc ca cl cc k t d) w4 (w4.alloc (ringObj cap first a4 rl q4 c4 cl p4)) (ringObj cap first a4 rl q4 c4 cl p4) a4 rl q4 (recs.map Value.string) c4 cl p4 (curCells curs)) := po_start (below_tr HB3.out hb4) (below_tr HW3.out hb4) ho4 HW3.out.size HB0.out.size
      clear hb4 ho4 hc3
      have HPD : Hid (PO w (W3 w cap first ra rl rc ca cl cc k t d) w4 (w4.alloc (ringObj cap first a4 rl q4 c4 cl p4)).drew (ringObj cap first a4 rl q4 c4 cl p4) a4 rl q4 (recs.map Value.string) c4 cl p4 (curCells curs)) := HPO.out.under ((Below.refl _ _).drew)
      go_upto_region 4 with fail
      obtain ⟨W1, eW1⟩ : ∃ W1, w4.alloc (ringObj cap first a4 rl q4 c4 cl p4) = W1 := ⟨_, rfl⟩
      rw [eW1] at HPO HPD ⊢
      clear eW1
      have hp1 := fun o => HPO.out.bu.cell (p := ⟨w.heap.size + 1, o, none⟩) (by simp only [World.size_alloc]; omega)
      have hx1 := fun o => cell_of_block0 HPO.out.bo o
      have hzu : w.heap.size + 1 + 1 < (W3 w cap first ra rl rc ca cl cc k t d).heap.size := by simp
      go_cut [] (fun wc => ∃ (a : Option Addr) (q : Nat), Hid (OwnRing wc (W3 w cap first ra rl rc ca cl cc k t d).heap.size a (rl + 1) q c4 cl p4 (recs.map Value.string ++ [.string S]) (curCells curs)) ∧ Hid (Below w.heap.size w wc) ∧ Hid (Below (W3 w cap first ra rl rc ca cl cc k t d).heap.size (W3 w cap first ra rl rc ca cl cc k t d) wc) ∧ Hid (wc.heap[w4.heap.size]? = some (ringObj cap first a (rl + 1) q c4 cl p4)))
      case first =>
        first | (go_region_law (first
          | (go_simp; go_at_call 82; refine (HBY.out _).mono ?_; rintro e w5 ⟨rfl, hb5⟩; have HP5 : Hid (PO w (W3 w cap first ra rl rc ca cl cc k t d) w4 w5 (ringObj cap first a4 rl q4 c4 cl p4) a4 rl q4 (recs.map Value.string) c4 cl p4 (curCells curs)) := HPD.out.under hb5; have hx5 := fun o => cell_of_block0 HP5.out.bo o; have hs5 := Nat.le_trans HP5.out.le (Nat.le_of_succ_le HP5.out.size); have hl5 : w4.heap.size < w5.heap.size := HP5.out.size; have hn5 : w4.heap.size ≠ w5.heap.size := Nat.ne_of_lt hl5; clear hb5)
          | (refine step_append_own_any (by rfl) _ _ _ (by rfl) (W3 w cap first ra rl rc ca cl cc k t d).heap.size 9 i0 _ 1 16 Tryz.underlying43 hi0 hz0 hz1 hz2 (by rfl) (by omega) (.slice a4 rl q4) rl _ (by rfl) (HP5.out.own.1.alloc _) (some ⟨w5.heap.size, 0, none⟩) 1 1 [.string S] (by rfl) (by rfl) (fun e' => by cases e') (fun ad e' => by cases e'; exact cell_one_new _ _ _) (by simp [Value.oneCell']) (by unfold maxLen; omega) (by omega) (Nat.le_trans hs5 (by simp)) ?_; intro v6 w6 ho6 hg6; obtain ⟨a6, c6, rfl⟩ := own_strV ho6; have hst := po_app HP5.out ho6 hg6; have hx6 := hst.1; have hf6 := hst.2.1; have HST : Hid _ := hst.2.2; clear ho6 hg6 hst))) | fail
        all_goals (go_wp2_with fail; go_meet; exact ⟨a6, c6, HST.out.1, HST.out.2.1, HST.out.2.2.1, HST.out.2.2.2⟩)
      case rest =>
      obtain ⟨a, q, HO, HB, HU, HX⟩ := hcut
      have hx := fun o => cell_of_block0 HX.out o
      have hc := fun o => HU.out.cell (p := ⟨w.heap.size + 1 + 1, o, none⟩) (by simp)
      have hf := fun o => HU.out.frozen (p := ⟨w.heap.size + 1 + 1, o, none⟩) (by simp)
      have HO' : Hid (OwnRing wc (W3 w cap first ra rl rc ca cl cc k t d).heap.size a (rl + 1) q c4 cl p4 ((recs ++ [S]).map Value.string) (curCells curs)) := by have h := HO.out; rw [show recs.map Value.string ++ [.string S] = (recs ++ [S]).map Value.string by simp] at h; exact h
      go_wp2
      refine bodyPost_ret (v := ringOutV cap first a (rl + 1) q c4 cl p4 0 0 ⟨#[]⟩ 0) (by simp [results, Tryz.results36, go_sem, hc]) rfl ?_
      exact ans_put hE.out rfl (by rw [List.length_append, HRL.out]; rfl) HL.out HO'.out HB.out _ (by omega) hzu _ _ _ _ _ _ _ _
end Go.Proofs.YtahccighonddaaaGreatDoor
