/- Follow of the specification. -/
import Derived.Test.YtbbaghlmialaoaaGreatDoorSpecLeave
import Derived.Test.YtbbaghlmialaoaaGreatDoorLawRingOut0
namespace Go.Proofs.YtbbaghlmialaoaaGreatDoor
open Go.RowKit
variable {cap first : Int} {ra ca : Option Addr} {rl rc cl cc : Nat}

/-- While the specification lets one follow: what stood ahead, the copy's box, and the copy's texts. -/
structure FO (w u w4 wr : World) (o : Obj) (a : Option Addr) (n q : Nat) (xs : List Value) : Prop where
  bu : Below u.heap.size u wr
  bw : Below w.heap.size w wr
  bo : wr.heap[w4.heap.size]? = some o
  own : wr.ownsRow u.heap.size 9 1 (.slice a n q) n xs
  ltb : ∀ g, (Value.slice a n q).ownBlock = some g → g < w4.heap.size
  size : w4.heap.size + 1 ≤ wr.heap.size
  le : u.heap.size ≤ w4.heap.size
  lw : w.heap.size ≤ w4.heap.size
theorem FO.grown {w u w4 wr wx : World} {o : Obj} {a : Option Addr} {n q : Nat} {xs : List Value} {row : Option Nat} (h : FO w u w4 wr o a n q xs) (hg : wr.grownBy wx row) (hr : ∀ j, row = some j → w4.heap.size + 1 ≤ j) : FO w u w4 wx o a n q xs := by
  have hle := h.le
  have hlw := h.lw
  have hz := h.size
  refine ⟨h.bu.grown hg (by omega) (fun j e' => by have := hr j e'; omega), h.bw.grown hg (by omega) (fun j e' => by have := hr j e'; omega), (hg.block _ (by omega) (fun e' => by have := hr _ e'.symm; omega)).trans h.bo, h.own.kept hg ?_, h.ltb, Nat.le_trans h.size hg.size, h.le, h.lw⟩
  cases hq : (Value.slice a n q).ownBlock with
  | none => exact .inl rfl
  | some g =>
    right
    intro e'
    have h1 := h.ltb g hq
    have h2 := hr g e'.symm
    omega
theorem FO.alloc {w u w4 wr : World} {o : Obj} {a : Option Addr} {n q : Nat} {xs : List Value} (h : FO w u w4 wr o a n q xs) (x : Obj) : FO w u w4 (wr.alloc x) o a n q xs := h.grown (World.grownBy_alloc wr x none) (fun j e' => by cases e')
theorem fo_start {w u w3 w4 : World} {o : Obj} {a c : Option Addr} {n q m p : Nat} {xs ys : List Value} (hB : Below w.heap.size w w4) (hW : Below u.heap.size u w4) (ho : OwnRing w4 w3.heap.size a n q c m p xs ys) (h3 : u.heap.size ≤ w3.heap.size) : FO w u w4 (w4.alloc o) o a n q xs :=
  ⟨hW.alloc hW.size o, hB.alloc hB.size o, heap_alloc_new _ _, (ho.1.mono h3).alloc o, fun g e' => (ho.1.lt g e').2, by simp, hW.size, hB.size⟩
theorem FO.fin {w u w4 wr : World} {o : Obj} {a b : Option Addr} {n q m p : Nat} {xs ys : List Value} (h : FO w u w4 wr o a n q xs) (hy : wr.ownsRow (w4.heap.size + 1) 47 2 (.slice b m p) m ys) (v : Value) :
    OwnRing (wr.setCell ⟨w4.heap.size, 3, none⟩ v) u.heap.size a n q b m p xs ys ∧ Below w.heap.size w (wr.setCell ⟨w4.heap.size, 3, none⟩ v) ∧ Below u.heap.size u (wr.setCell ⟨w4.heap.size, 3, none⟩ v) := by
  have hle := h.le
  have hlw := h.lw
  refine ⟨⟨⟨h.own.1, ?_⟩, ?_⟩, ?_, ?_⟩
  · rcases h.own.2 with hn | ⟨g, cap, cur, e', hb', hg', rest⟩
    · exact .inl hn
    · have hgl : g < w4.heap.size := h.ltb g (by rw [e']; rfl)
      exact .inr ⟨g, cap, cur, e', hb', (Below.heap_setCell wr ⟨w4.heap.size, 3, none⟩ v g (show g ≠ w4.heap.size by omega)).trans hg', rest⟩
  · exact (ownsRow_setCell_below hy (a := ⟨w4.heap.size, 3, none⟩) (show w4.heap.size < w4.heap.size + 1 by omega) _).mono (by omega)
  · exact h.bw.setCell (p := ⟨w4.heap.size, 3, none⟩) hlw _
  · exact h.bu.setCell (p := ⟨w4.heap.size, 3, none⟩) hle _
theorem ans_follow {w W : World} {cap first : Int} {recs : List ByteArray} {curs cs : List (Int × Int)} {a b : Option Addr} {n q m p base : Nat} {r : RO} (hr : r = RO.ring cap first recs curs) (hc : cs = curs) (hn : recs.length = n) (hm : cs.length = m) (ho : OwnRing W base a n q b m p (recs.map Value.string) (curCells cs)) (hB : Below w.heap.size w W) (hb : w.heap.size + 2 ≤ base) (v0 v1 v2 v3 v4 v5 v6 v7 : Value) :
    Answers w (set8 W (w.heap.size + 1) v0 v1 v2 v3 v4 v5 v6 v7) (.returned (ringOutV cap first a n q b m p 0 0 ⟨#[]⟩ 0)) r := by
  subst hr hc hn hm
  exact ans_ring (RO.ring cap first recs cs) ho hB (w.heap.size + 1) (by omega) (by omega) _ _ _ _ _ _ _ _
set_option maxRecDepth 100000 in
set_option maxHeartbeats 8000000 in
theorem spec_follow (recs : List ByteArray) (curs : List (Int × Int)) (g : Int) (w : World) (hi : RFit w ra rl rc ca cl cc recs curs) :
    Calls Tryz.prog 21 #[ringV cap first ra rl rc ca cl cc, .int .i64 g] w fun e w' => Answers w w' e (followR cap first recs curs g) := by
  obtain ⟨j0, hj0, hy0, hy1, hy2⟩ := info_parts info_cur
  have HI : Hid (RFit w ra rl rc ca cl cc recs curs) := hi
  have hcl : cl ≤ 1048576 := hi.cle
  have hrl : rl ≤ 1048576 := hi.rle
  have hccm : cc ≤ 2 ^ 63 - 1 := hi.ccm
  have HL : Hid (curs.length = cl) := hi.cur.curs.1
  have HRL : Hid (recs.length = rl) := hi.str.strs.1
  have HSR : Hid _ := fun w (hi : RFit w ra rl rc ca cl cc recs curs) => spec_ringRight cap first ra rl rc ca cl cc recs curs w hi.str.strs hi.cur.curs hi.rin.sz' hi.rle hi.cle
  have HIS : Hid _ := fun w => spec_is g 1 9 w
  clear hi
  have HB0 : Hid (Below w.heap.size w (W2 w cap first ra rl rc ca cl cc)) := w2_below ..
  obtain ⟨R, hR⟩ : ∃ R, ringRightB cap first recs curs = R := ⟨_, rfl⟩
  have HF : Hid (followR cap first recs curs g = if R = false ∨ ¬ (1 ≤ g ∧ g ≤ 9) then RO.ill 1 else if findB g curs = true then RO.ill 7 else if curs.length = 4 then RO.ill 9 else RO.ring cap first recs (curs.take (findK g curs) ++ (g, first) :: curs.drop (findK g curs))) := by rw [← hR]; rfl
  rw [hR] at HSR
  have HRR : Hid (R = true → (0 ≤ first ∧ first ≤ 1000000) ∧ curs.length ≤ 4 ∧ rises curs) := fun h => by
    have h1 := right_first (hR.trans h)
    have h2 := right_curs (hR.trans h)
    exact ⟨h1.1, h1.2.2.2.2, h2.2⟩
  clear hR
  go_enter Tryz.func21, Tryz.ntmps21
  go_wp2_with fail
  refine (HSR.out _ (HI.out.below HB0.out)).mono ?_
  rintro e w2 ⟨rfl, hb2⟩
  have HB2 : Hid (Below w.heap.size w w2) := below_tr HB0.out hb2
  have HW2 : Hid (Below (W2 w cap first ra rl rc ca cl cc).heap.size (W2 w cap first ra rl rc ca cl cc) w2) := hb2
  clear hb2 HSR
  have hc2 := fun o => HW2.out.cell (p := ⟨w.heap.size, o, none⟩) (by simp only [World.size_alloc]; omega)
  cases R
  · have hE : Hid (followR cap first recs curs g = RO.ill 1) := HF.out.trans (if_pos (.inl rfl))
    clear HF
    go_wp2_with fail
    refine (spec_ill 1 _).mono ?_
    rintro e w3 ⟨rfl, hb3⟩
    have HB3 : Hid (Below w.heap.size w w3) := below_tr HB2.out hb3
    have HW3 : Hid (Below (W2 w cap first ra rl rc ca cl cc).heap.size (W2 w cap first ra rl rc ca cl cc) w3) := below_tr HW2.out hb3
    clear hb3 hc2
    have hc3 := fun o => HW3.out.cell (p := ⟨w.heap.size + 1, o, none⟩) (by simp)
    have hf3 := fun o => HW3.out.frozen (p := ⟨w.heap.size + 1, o, none⟩) (by simp)
    go_wp2
    refine bodyPost_ret (v := ringIll 1) (by simp [results, Tryz.results21, go_sem, hc3]) rfl ?_
    rw [hE.out]
    exact ans_ill 1 HB3.out _ (by omega) _ _ _ _ _ _ _ _
  · have HRT := HRR.out rfl
    have HFT : Hid (0 ≤ first ∧ first ≤ 1000000) := HRT.1
    have HC4 : Hid (cl ≤ 4) := by rw [← HL.out]; exact HRT.2.1
    have HRI : Hid (rises curs) := HRT.2.2
    clear HRT HRR
    by_cases hG : 1 ≤ g ∧ g ≤ 9
    · rw [decide_eq_true hG] at HIS
      have HF2 : Hid (followR cap first recs curs g = if findB g curs = true then RO.ill 7 else if curs.length = 4 then RO.ill 9 else RO.ring cap first recs (curs.take (findK g curs) ++ (g, first) :: curs.drop (findK g curs))) := HF.out.trans (if_neg (by simp [hG]))
      clear HF hG
      go_wp2_with fail
      refine (HIS.out _).mono ?_
      rintro e w2' ⟨rfl, hw2⟩
      rw [hw2]
      clear hw2 w2'
      have HCU : Hid _ := fun w hc => spec_cursor cap first ra rl rc ca cl cc g curs w hc HRI.out hcl
      unfold curIx at HCU
      obtain ⟨T, hTe⟩ : ∃ T, findB g curs = T := ⟨_, rfl⟩
      obtain ⟨K0, hK0⟩ : ∃ K, (findK g curs : Int) = K := ⟨_, rfl⟩
      have hK0' : 0 ≤ K0 := by omega
      rw [hTe, hK0] at HCU
      rw [hTe] at HF2
      clear hTe hK0
      cases T
      · rw [if_neg (by simp)] at HCU
        have HF3 : Hid (followR cap first recs curs g = if curs.length = 4 then RO.ill 9 else RO.ring cap first recs (curs.take (findK g curs) ++ (g, first) :: curs.drop (findK g curs))) := HF2.out.trans (if_neg (by simp))
        clear HF2
        go_wp2_with fail
        refine (HCU.out _ (curs_below HI.out.cur.curs HB2.out)).mono ?_
        rintro e w3 ⟨rfl, hb3⟩
        have HB3 : Hid (Below w.heap.size w w3) := below_tr HB2.out hb3
        have HW3 : Hid (Below (W2 w cap first ra rl rc ca cl cc).heap.size (W2 w cap first ra rl rc ca cl cc) w3) := below_tr HW2.out hb3
        clear hb3 hc2 HCU
        have hc3 := fun o => HW3.out.cell (p := ⟨w.heap.size, o, none⟩) (by simp only [World.size_alloc]; omega)
        by_cases h4 : cl = 4
        · have hE : Hid (followR cap first recs curs g = RO.ill 9) := HF3.out.trans (if_pos (by rw [HL.out]; exact h4))
          have h4i : (4 : Int) ≤ (cl : Int) := by omega
          clear HF3
          go_wp2_with fail
          refine (spec_ill 9 _).mono ?_
          rintro e w4 ⟨rfl, hb4⟩
          have HB4 : Hid (Below w.heap.size w w4) := below_tr HB3.out hb4
          have HW4 : Hid (Below (W2 w cap first ra rl rc ca cl cc).heap.size (W2 w cap first ra rl rc ca cl cc) w4) := below_tr HW3.out hb4
          clear hb4 hc3
          have hc4 := fun o => HW4.out.cell (p := ⟨w.heap.size + 1, o, none⟩) (by simp)
          have hf4 := fun o => HW4.out.frozen (p := ⟨w.heap.size + 1, o, none⟩) (by simp)
          go_wp2
          refine bodyPost_ret (v := ringIll 9) (by simp [results, Tryz.results21, go_sem, hc4]) rfl ?_
          rw [hE.out]
          exact ans_ill 9 HB4.out _ (by omega) _ _ _ _ _ _ _ _
        · have HE : Hid (followR cap first recs curs g = RO.ring cap first recs (curs.take (findK g curs) ++ (g, first) :: curs.drop (findK g curs))) := HF3.out.trans (if_neg (by rw [HL.out]; exact h4))
          have h4c := HC4.out
          have h4i : ¬ (4 : Int) ≤ (cl : Int) := by omega
          clear HF3
          go_wp2_with fail
          refine (spec_copy recs curs _ (HI.out.str.below HB3.out) (HI.out.cur.below HB3.out) (by omega) (by omega)).mono ?_
          rintro e w4 ⟨a4, q4, c4, p4, rfl, ho4, hb4⟩
          have HFO : Hid (FO w (W2 w cap first ra rl rc ca cl cc) w4 (w4.alloc (ringObj cap first a4 rl q4 c4 cl p4)) (ringObj cap first a4 rl q4 c4 cl p4) a4 rl q4 (recs.map Value.string)) := fo_start (below_tr HB3.out hb4) (below_tr HW3.out hb4) ho4 HW3.out.size
          clear hb4 ho4 hc3
          have hz4 : w.heap.size < w4.heap.size := by have h := HFO.out.le; simp at h; omega
          go_wp2_with fail
          obtain ⟨W1, eW1⟩ : ∃ W1, w4.alloc (ringObj cap first a4 rl q4 c4 cl p4) = W1 := ⟨_, rfl⟩
          have hzW : W1.heap.size = w4.heap.size + 1 := by rw [← eW1]; simp
          rw [eW1] at HFO ⊢
          clear eW1
          have hc1 := fun o => HFO.out.bu.cell (p := ⟨w.heap.size, o, none⟩) (by simp only [World.size_alloc]; omega)
          have hx1 := fun o => cell_of_block0 HFO.out.bo o
          go_loop [6] (fun i => ∃ k : Nat, k ≤ cl ∧ i = .int .i64 k ∧ Hid (lowTo g curs k)) (fun i => cl - (intOf i).toNat)
          case atStart => exact ⟨0, by omega, rfl, fun j hj => by omega⟩
          case round =>
            obtain ⟨k, hkn, rfl, hr⟩ := hrel
            have hend : (k < cl → ∀ h : k < curs.length, g ≤ curs[k].1) → Hid (findK g curs = k) := fun h => by
              by_cases hk : k < cl
              · have hkl : k < curs.length := by rw [HL.out]; exact hk
                exact (find_at hr.out hkl (h hk hkl)).1
              · show _ = _
                rw [(find_none hr.out (by rw [HL.out]; omega)).1, HL.out]
                omega
            cases ca with
            | none =>
              obtain ⟨e1, e2⟩ := HI.out.cur.nil rfl
              subst e1 e2
              obtain rfl : k = 0 := by omega
              have HK := hend (fun h => by omega)
              have hcs : Hid (curs = []) := List.eq_nil_of_length_eq_zero HL.out
              clear hend hr
              have HTa : Hid (FO w (W2 w cap first ra rl rc none 0 0) w4 (W1.alloc (.cells #[] 47)) (ringObj cap first a4 rl q4 c4 0 p4) a4 rl q4 (recs.map Value.string)) := HFO.out.alloc _
              have HRW : Hid ((W1.alloc (.cells #[] 47)).ownsRow (w4.heap.size + 1) 47 2 (.slice (some ⟨w4.heap.size + 1, 0, none⟩) 0 0) 0 []) := by
                have h := trim_row W1 47 2
                rw [hzW] at h
                exact h
              go_wp2_with (first
                | (at_builtin; refine wpList_append_own_any (by rfl) _ _ 24 (by rfl) (w4.heap.size + 1) 47 j0 _ 2 16 Tryz.underlying24 hj0 hy0 hy1 hy2 (by rfl) (by omega) (.slice (some ⟨w4.heap.size + 1, 0, none⟩) 0 0) 0 [] (by rfl) HRW.out none 0 0 (curCells (curs.take 0)) (by rfl) (by simp [hcs.out, curCells]) (fun _ => ⟨rfl, rfl⟩) (fun _ e' => by cases e') (curCells_one _) (by unfold maxLen; omega) (by omega) HTa.out.size ?_; intro v2 w5 ho2 hg2; simp only [Nat.zero_add, List.nil_append] at ho2; have ht2 := HTa.out.grown hg2 (fun j e' => by simp [Value.ownBlock] at e'; omega); have hc5 := fun o => ht2.bu.cell (p := ⟨w.heap.size, o, none⟩) (by simp only [World.size_alloc]; omega); have HTb : Hid (FO w (W2 w cap first ra rl rc none 0 0) w4 (w5.alloc (.cells #[.int .i64 g, .int .i64 first] 47)) (ringObj cap first a4 rl q4 c4 0 p4) a4 rl q4 (recs.map Value.string)) := ht2.alloc _; have HO2 : Hid (w5.ownsRow (w4.heap.size + 1) 47 2 v2 0 (curCells (curs.take 0))) := ho2; have HBK : Hid ((w5.alloc (.cells #[.int .i64 g, .int .i64 first] 47)).heap[w5.heap.size]? = some (.cells #[.int .i64 g, .int .i64 first] 47 (0, 0))) := heap_alloc_new _ _; clear ht2 ho2 hg2)
                | (at_builtin; refine wpList_append_own_any (by rfl) _ _ 24 (by rfl) (w4.heap.size + 1) 47 j0 _ 2 16 Tryz.underlying24 hj0 hy0 hy1 hy2 (by rfl) (by omega) v2 0 (curCells (curs.take 0)) (by rfl) (HO2.out.alloc _) (some ⟨w5.heap.size, 0, none⟩) 1 1 [.int .i64 g, .int .i64 first] (by rfl) (by rfl) (fun e' => by cases e') (fun ad e' => by cases e'; exact World.news_of_block (cs := #[.int .i64 g, .int .i64 first]) (t := 47) (fr := (0, 0)) HBK.out) (by simp [Value.oneCell']) (by unfold maxLen; omega) (by omega) HTb.out.size ?_; intro v3 w6 ho3 hg3; have ht3 := HTb.out.grown hg3 (fun j e' => (HO2.out.lt j e').1); have HTc : Hid (FO w (W2 w cap first ra rl rc none 0 0) w4 w6 (ringObj cap first a4 rl q4 c4 0 p4) a4 rl q4 (recs.map Value.string)) := ht3; have hc6 := fun o => ht3.bu.cell (p := ⟨w.heap.size, o, none⟩) (by simp only [World.size_alloc]; omega); have HO3 : Hid (w6.ownsRow (w4.heap.size + 1) 47 2 v3 (0 + 1) (curCells (curs.take 0) ++ [.int .i64 g, .int .i64 first])) := ho3; clear ht3 ho3 hg3)
                | (at_builtin; refine wpList_append_own_any (by rfl) _ _ 24 (by rfl) (w4.heap.size + 1) 47 j0 _ 2 16 Tryz.underlying24 hj0 hy0 hy1 hy2 (by rfl) (by omega) v3 (0 + 1) (curCells (curs.take 0) ++ [.int .i64 g, .int .i64 first]) (by rfl) HO3.out none 0 0 (curCells (curs.drop 0)) (by rfl) (by simp [hcs.out, curCells]) (fun _ => ⟨rfl, rfl⟩) (fun _ e' => by cases e') (curCells_one _) (by unfold maxLen; omega) (by omega) HTc.out.size ?_; intro v4 w7 ho4 hg4; have hf4 := with_fin ho4 (show 0 + 1 + 0 = 0 + 1 by omega); obtain ⟨a7, c7, rfl⟩ := own_curV hf4; have ht4 := HTc.out.grown hg4 (fun j e' => (HO3.out.lt j e').1); have hx4 := fun o => cell_of_block0 ht4.bo o; have hy4 := fun o => unfrozen_of_block0 ht4.bo o; have hfin := ht4.fin hf4 (.slice a7 (0 + 1) c7); have hz7 : w.heap.size + 1 < w7.heap.size := (by have h := ht4.le; have h2 := ht4.size; simp at h; omega); have hne7 : w.heap.size + 1 ≠ w4.heap.size := (by have h := ht4.le; simp at h; omega); have HF : Hid _ := hfin; have hc7 := fun o => ht4.bu.cell (p := ⟨w.heap.size + 1, o, none⟩) (by simp); have hff7 := fun o => ht4.bu.frozen (p := ⟨w.heap.size + 1, o, none⟩) (by simp); have HLN : Hid ((curs.take 0 ++ (g, first) :: curs.drop 0).length = 0 + 1) := (show _ = _ by simp [hcs.out]); clear ht4 ho4 hg4 hf4 hfin))
              refine bodyPost_ret (v := ringOutV cap first a4 rl q4 a7 (0 + 1) c7 0 0 ⟨#[]⟩ 0) (by simp [results, Tryz.results21, go_sem, hc7]) rfl ?_
              exact ans_follow HE.out (by rw [HK.out]) HRL.out HLN.out HF.out.1 HF.out.2.1 (by simp) _ _ _ _ _ _ _ _
            | some ax =>
              obtain ⟨b, off, eax⟩ : ∃ b off, ax = ⟨b, off, none⟩ := ⟨_, _, HI.out.cur.off ax rfl⟩
              subst eax
              have hcap := HI.out.cur.cap
              by_cases hlt : k < cl
              · obtain ⟨b', off', e', hj, g1, a1⟩ := curs_two (curs_below HI.out.cur.curs HFO.out.bw) (Below.refl _ _) (k := k) hlt
                cases e'
                by_cases hG : curs[k].1 < g
                · have hE : Hid (lowTo g curs (k + 1)) := fun i hi h1 => by
                    by_cases hik : i = k
                    · subst hik; exact hG
                    · exact hr.out i (by omega) h1
                  obtain ⟨G1, eG⟩ : ∃ G, curs[k].1 = G := ⟨_, rfl⟩
                  rw [eG] at g1 hG
                  clear eG hr hend hj a1
                  go_wp2
                  exact ⟨⟨k + 1, by omega, by go_num, hE.out⟩, by simp [intOf]; omega⟩
                · have HK := hend (fun _ _ => by omega)
                  obtain ⟨G1, eG⟩ : ∃ G, curs[k].1 = G := ⟨_, rfl⟩
                  rw [eG] at g1 hG
                  clear eG hr hend hj a1
                  have hrck : k < cc := by omega
                  have HTa : Hid (FO w (W2 w cap first ra rl rc (some ⟨b, off, none⟩) cl cc) w4 (W1.alloc (.cells #[] 47)) (ringObj cap first a4 rl q4 c4 cl p4) a4 rl q4 (recs.map Value.string)) := HFO.out.alloc _
                  have HRW : Hid ((W1.alloc (.cells #[] 47)).ownsRow (w4.heap.size + 1) 47 2 (.slice (some ⟨w4.heap.size + 1, 0, none⟩) 0 0) 0 []) := by
                    have h := trim_row W1 47 2
                    rw [hzW] at h
                    exact h
                  go_wp2_with (first
                    | (at_builtin; refine wpList_append_own_any (by rfl) _ _ 24 (by rfl) (w4.heap.size + 1) 47 j0 _ 2 16 Tryz.underlying24 hj0 hy0 hy1 hy2 (by rfl) (by omega) (.slice (some ⟨w4.heap.size + 1, 0, none⟩) 0 0) 0 [] (by rfl) HRW.out (some ⟨b, off, none⟩) k cc (curCells (curs.take k)) (by rfl) (by rw [curCells_length, List.length_take, HL.out]; omega) (fun e' => by cases e') (curs_news (curs_take (curs_below HI.out.cur.curs HTa.out.bw) (by omega))) (curCells_one _) (by unfold maxLen; omega) (by omega) HTa.out.size ?_; intro v2 w5 ho2 hg2; simp only [Nat.zero_add, List.nil_append] at ho2; have ht2 := HTa.out.grown hg2 (fun j e' => by simp [Value.ownBlock] at e'; omega); have hc5 := fun o => ht2.bu.cell (p := ⟨w.heap.size, o, none⟩) (by simp only [World.size_alloc]; omega); have HTb : Hid (FO w (W2 w cap first ra rl rc (some ⟨b, off, none⟩) cl cc) w4 (w5.alloc (.cells #[.int .i64 g, .int .i64 first] 47)) (ringObj cap first a4 rl q4 c4 cl p4) a4 rl q4 (recs.map Value.string)) := ht2.alloc _; have HO2 : Hid (w5.ownsRow (w4.heap.size + 1) 47 2 v2 k (curCells (curs.take k))) := ho2; have HBK : Hid ((w5.alloc (.cells #[.int .i64 g, .int .i64 first] 47)).heap[w5.heap.size]? = some (.cells #[.int .i64 g, .int .i64 first] 47 (0, 0))) := heap_alloc_new _ _; clear ht2 ho2 hg2)
                    | (at_builtin; refine wpList_append_own_any (by rfl) _ _ 24 (by rfl) (w4.heap.size + 1) 47 j0 _ 2 16 Tryz.underlying24 hj0 hy0 hy1 hy2 (by rfl) (by omega) v2 k (curCells (curs.take k)) (by rfl) (HO2.out.alloc _) (some ⟨w5.heap.size, 0, none⟩) 1 1 [.int .i64 g, .int .i64 first] (by rfl) (by rfl) (fun e' => by cases e') (fun ad e' => by cases e'; exact World.news_of_block (cs := #[.int .i64 g, .int .i64 first]) (t := 47) (fr := (0, 0)) HBK.out) (by simp [Value.oneCell']) (by unfold maxLen; omega) (by omega) HTb.out.size ?_; intro v3 w6 ho3 hg3; have ht3 := HTb.out.grown hg3 (fun j e' => (HO2.out.lt j e').1); have HTc : Hid (FO w (W2 w cap first ra rl rc (some ⟨b, off, none⟩) cl cc) w4 w6 (ringObj cap first a4 rl q4 c4 cl p4) a4 rl q4 (recs.map Value.string)) := ht3; have hc6 := fun o => ht3.bu.cell (p := ⟨w.heap.size, o, none⟩) (by simp only [World.size_alloc]; omega); have HO3 : Hid (w6.ownsRow (w4.heap.size + 1) 47 2 v3 (k + 1) (curCells (curs.take k) ++ [.int .i64 g, .int .i64 first])) := ho3; clear ht3 ho3 hg3)
                    | (at_builtin; refine wpList_append_own_any (by rfl) _ _ 24 (by rfl) (w4.heap.size + 1) 47 j0 _ 2 16 Tryz.underlying24 hj0 hy0 hy1 hy2 (by rfl) (by omega) v3 (k + 1) (curCells (curs.take k) ++ [.int .i64 g, .int .i64 first]) (by rfl) HO3.out (some ⟨b, off + k * 2, none⟩) (cl - k) (cc - k) (curCells (curs.drop k)) (by rfl) (by rw [curCells_length, List.length_drop, HL.out]) (fun e' => by cases e') (curs_news (curs_drop (curs_below HI.out.cur.curs HTc.out.bw) (by omega))) (curCells_one _) (by unfold maxLen; omega) (by omega) HTc.out.size ?_; intro v4 w7 ho4 hg4; have hf4 := with_fin ho4 (show k + 1 + (cl - k) = cl + 1 by omega); obtain ⟨a7, c7, rfl⟩ := own_curV hf4; have ht4 := HTc.out.grown hg4 (fun j e' => (HO3.out.lt j e').1); have hx4 := fun o => cell_of_block0 ht4.bo o; have hy4 := fun o => unfrozen_of_block0 ht4.bo o; have hfin := ht4.fin hf4 (.slice a7 (cl + 1) c7); have hz7 : w.heap.size + 1 < w7.heap.size := (by have h := ht4.le; have h2 := ht4.size; simp at h; omega); have hne7 : w.heap.size + 1 ≠ w4.heap.size := (by have h := ht4.le; simp at h; omega); have HF : Hid _ := hfin; have hc7 := fun o => ht4.bu.cell (p := ⟨w.heap.size + 1, o, none⟩) (by simp); have hff7 := fun o => ht4.bu.frozen (p := ⟨w.heap.size + 1, o, none⟩) (by simp); have HLN : Hid ((curs.take k ++ (g, first) :: curs.drop k).length = cl + 1) := (show _ = _ by have := HL.out; simp; omega); clear ht4 ho4 hg4 hf4 hfin))
                  refine bodyPost_ret (v := ringOutV cap first a4 rl q4 a7 (cl + 1) c7 0 0 ⟨#[]⟩ 0) (by simp [results, Tryz.results21, go_sem, hc7]) rfl ?_
                  exact ans_follow HE.out (by rw [HK.out]) HRL.out HLN.out HF.out.1 HF.out.2.1 (by simp) _ _ _ _ _ _ _ _
              · obtain rfl : k = cl := by omega
                have HK := hend (fun h => by omega)
                clear hr hend
                by_cases hrk : cc = k
                · have hrk' := hrk.symm
                  subst hrk'
                  have HDR : Hid (curs.drop k = []) := List.drop_eq_nil_of_le (by rw [HL.out]; exact Nat.le_refl _)
                  have HTa : Hid (FO w (W2 w cap first ra rl rc (some ⟨b, off, none⟩) k k) w4 (W1.alloc (.cells #[] 47)) (ringObj cap first a4 rl q4 c4 k p4) a4 rl q4 (recs.map Value.string)) := HFO.out.alloc _
                  have HRW : Hid ((W1.alloc (.cells #[] 47)).ownsRow (w4.heap.size + 1) 47 2 (.slice (some ⟨w4.heap.size + 1, 0, none⟩) 0 0) 0 []) := by
                    have h := trim_row W1 47 2
                    rw [hzW] at h
                    exact h
                  go_wp2_with (first
                    | (at_builtin; refine wpList_append_own_any (by rfl) _ _ 24 (by rfl) (w4.heap.size + 1) 47 j0 _ 2 16 Tryz.underlying24 hj0 hy0 hy1 hy2 (by rfl) (by omega) (.slice (some ⟨w4.heap.size + 1, 0, none⟩) 0 0) 0 [] (by rfl) HRW.out (some ⟨b, off, none⟩) k k (curCells (curs.take k)) (by rfl) (by rw [curCells_length, List.length_take, HL.out]; omega) (fun e' => by cases e') (curs_news (curs_take (curs_below HI.out.cur.curs HTa.out.bw) (by omega))) (curCells_one _) (by unfold maxLen; omega) (by omega) HTa.out.size ?_; intro v2 w5 ho2 hg2; simp only [Nat.zero_add, List.nil_append] at ho2; have ht2 := HTa.out.grown hg2 (fun j e' => by simp [Value.ownBlock] at e'; omega); have hc5 := fun o => ht2.bu.cell (p := ⟨w.heap.size, o, none⟩) (by simp only [World.size_alloc]; omega); have HTb : Hid (FO w (W2 w cap first ra rl rc (some ⟨b, off, none⟩) k k) w4 (w5.alloc (.cells #[.int .i64 g, .int .i64 first] 47)) (ringObj cap first a4 rl q4 c4 k p4) a4 rl q4 (recs.map Value.string)) := ht2.alloc _; have HO2 : Hid (w5.ownsRow (w4.heap.size + 1) 47 2 v2 k (curCells (curs.take k))) := ho2; have HBK : Hid ((w5.alloc (.cells #[.int .i64 g, .int .i64 first] 47)).heap[w5.heap.size]? = some (.cells #[.int .i64 g, .int .i64 first] 47 (0, 0))) := heap_alloc_new _ _; clear ht2 ho2 hg2)
                    | (at_builtin; refine wpList_append_own_any (by rfl) _ _ 24 (by rfl) (w4.heap.size + 1) 47 j0 _ 2 16 Tryz.underlying24 hj0 hy0 hy1 hy2 (by rfl) (by omega) v2 k (curCells (curs.take k)) (by rfl) (HO2.out.alloc _) (some ⟨w5.heap.size, 0, none⟩) 1 1 [.int .i64 g, .int .i64 first] (by rfl) (by rfl) (fun e' => by cases e') (fun ad e' => by cases e'; exact World.news_of_block (cs := #[.int .i64 g, .int .i64 first]) (t := 47) (fr := (0, 0)) HBK.out) (by simp [Value.oneCell']) (by unfold maxLen; omega) (by omega) HTb.out.size ?_; intro v3 w6 ho3 hg3; have ht3 := HTb.out.grown hg3 (fun j e' => (HO2.out.lt j e').1); have HTc : Hid (FO w (W2 w cap first ra rl rc (some ⟨b, off, none⟩) k k) w4 w6 (ringObj cap first a4 rl q4 c4 k p4) a4 rl q4 (recs.map Value.string)) := ht3; have hc6 := fun o => ht3.bu.cell (p := ⟨w.heap.size, o, none⟩) (by simp only [World.size_alloc]; omega); have HO3 : Hid (w6.ownsRow (w4.heap.size + 1) 47 2 v3 (k + 1) (curCells (curs.take k) ++ [.int .i64 g, .int .i64 first])) := ho3; clear ht3 ho3 hg3)
                    | (at_builtin; refine wpList_append_own_any (by rfl) _ _ 24 (by rfl) (w4.heap.size + 1) 47 j0 _ 2 16 Tryz.underlying24 hj0 hy0 hy1 hy2 (by rfl) (by omega) v3 (k + 1) (curCells (curs.take k) ++ [.int .i64 g, .int .i64 first]) (by rfl) HO3.out (some ⟨b, off, none⟩) 0 0 (curCells (curs.drop k)) (by rfl) (by rw [HDR.out]; rfl) (fun e' => by cases e') (fun ad e' j v hv => by rw [HDR.out] at hv; simp [curCells] at hv) (curCells_one _) (by unfold maxLen; omega) (by omega) HTc.out.size ?_; intro v4 w7 ho4 hg4; have hf4 := with_fin ho4 (show k + 1 + 0 = k + 1 by omega); obtain ⟨a7, c7, rfl⟩ := own_curV hf4; have ht4 := HTc.out.grown hg4 (fun j e' => (HO3.out.lt j e').1); have hx4 := fun o => cell_of_block0 ht4.bo o; have hy4 := fun o => unfrozen_of_block0 ht4.bo o; have hfin := ht4.fin hf4 (.slice a7 (k + 1) c7); have hz7 : w.heap.size + 1 < w7.heap.size := (by have h := ht4.le; have h2 := ht4.size; simp at h; omega); have hne7 : w.heap.size + 1 ≠ w4.heap.size := (by have h := ht4.le; simp at h; omega); have HF : Hid _ := hfin; have hc7 := fun o => ht4.bu.cell (p := ⟨w.heap.size + 1, o, none⟩) (by simp); have hff7 := fun o => ht4.bu.frozen (p := ⟨w.heap.size + 1, o, none⟩) (by simp); have HLN : Hid ((curs.take k ++ (g, first) :: curs.drop k).length = k + 1) := (show _ = _ by have := HL.out; simp; omega); clear ht4 ho4 hg4 hf4 hfin))
                  refine bodyPost_ret (v := ringOutV cap first a4 rl q4 a7 (k + 1) c7 0 0 ⟨#[]⟩ 0) (by simp [results, Tryz.results21, go_sem, hc7]) rfl ?_
                  exact ans_follow HE.out (by rw [HK.out]) HRL.out HLN.out HF.out.1 HF.out.2.1 (by simp) _ _ _ _ _ _ _ _
                · have hrck : k < cc := by omega
                  have HDR : Hid (curs.drop k = []) := List.drop_eq_nil_of_le (by rw [HL.out]; exact Nat.le_refl _)
                  have HTa : Hid (FO w (W2 w cap first ra rl rc (some ⟨b, off, none⟩) k cc) w4 (W1.alloc (.cells #[] 47)) (ringObj cap first a4 rl q4 c4 k p4) a4 rl q4 (recs.map Value.string)) := HFO.out.alloc _
                  have HRW : Hid ((W1.alloc (.cells #[] 47)).ownsRow (w4.heap.size + 1) 47 2 (.slice (some ⟨w4.heap.size + 1, 0, none⟩) 0 0) 0 []) := by
                    have h := trim_row W1 47 2
                    rw [hzW] at h
                    exact h
                  go_wp2_with (first
                    | (at_builtin; refine wpList_append_own_any (by rfl) _ _ 24 (by rfl) (w4.heap.size + 1) 47 j0 _ 2 16 Tryz.underlying24 hj0 hy0 hy1 hy2 (by rfl) (by omega) (.slice (some ⟨w4.heap.size + 1, 0, none⟩) 0 0) 0 [] (by rfl) HRW.out (some ⟨b, off, none⟩) k cc (curCells (curs.take k)) (by rfl) (by rw [curCells_length, List.length_take, HL.out]; omega) (fun e' => by cases e') (curs_news (curs_take (curs_below HI.out.cur.curs HTa.out.bw) (by omega))) (curCells_one _) (by unfold maxLen; omega) (by omega) HTa.out.size ?_; intro v2 w5 ho2 hg2; simp only [Nat.zero_add, List.nil_append] at ho2; have ht2 := HTa.out.grown hg2 (fun j e' => by simp [Value.ownBlock] at e'; omega); have hc5 := fun o => ht2.bu.cell (p := ⟨w.heap.size, o, none⟩) (by simp only [World.size_alloc]; omega); have HTb : Hid (FO w (W2 w cap first ra rl rc (some ⟨b, off, none⟩) k cc) w4 (w5.alloc (.cells #[.int .i64 g, .int .i64 first] 47)) (ringObj cap first a4 rl q4 c4 k p4) a4 rl q4 (recs.map Value.string)) := ht2.alloc _; have HO2 : Hid (w5.ownsRow (w4.heap.size + 1) 47 2 v2 k (curCells (curs.take k))) := ho2; have HBK : Hid ((w5.alloc (.cells #[.int .i64 g, .int .i64 first] 47)).heap[w5.heap.size]? = some (.cells #[.int .i64 g, .int .i64 first] 47 (0, 0))) := heap_alloc_new _ _; clear ht2 ho2 hg2)
                    | (at_builtin; refine wpList_append_own_any (by rfl) _ _ 24 (by rfl) (w4.heap.size + 1) 47 j0 _ 2 16 Tryz.underlying24 hj0 hy0 hy1 hy2 (by rfl) (by omega) v2 k (curCells (curs.take k)) (by rfl) (HO2.out.alloc _) (some ⟨w5.heap.size, 0, none⟩) 1 1 [.int .i64 g, .int .i64 first] (by rfl) (by rfl) (fun e' => by cases e') (fun ad e' => by cases e'; exact World.news_of_block (cs := #[.int .i64 g, .int .i64 first]) (t := 47) (fr := (0, 0)) HBK.out) (by simp [Value.oneCell']) (by unfold maxLen; omega) (by omega) HTb.out.size ?_; intro v3 w6 ho3 hg3; have ht3 := HTb.out.grown hg3 (fun j e' => (HO2.out.lt j e').1); have HTc : Hid (FO w (W2 w cap first ra rl rc (some ⟨b, off, none⟩) k cc) w4 w6 (ringObj cap first a4 rl q4 c4 k p4) a4 rl q4 (recs.map Value.string)) := ht3; have hc6 := fun o => ht3.bu.cell (p := ⟨w.heap.size, o, none⟩) (by simp only [World.size_alloc]; omega); have HO3 : Hid (w6.ownsRow (w4.heap.size + 1) 47 2 v3 (k + 1) (curCells (curs.take k) ++ [.int .i64 g, .int .i64 first])) := ho3; clear ht3 ho3 hg3)
                    | (at_builtin; refine wpList_append_own_any (by rfl) _ _ 24 (by rfl) (w4.heap.size + 1) 47 j0 _ 2 16 Tryz.underlying24 hj0 hy0 hy1 hy2 (by rfl) (by omega) v3 (k + 1) (curCells (curs.take k) ++ [.int .i64 g, .int .i64 first]) (by rfl) HO3.out (some ⟨b, off + k * 2, none⟩) 0 (cc - k) (curCells (curs.drop k)) (by rfl) (by rw [HDR.out]; rfl) (fun e' => by cases e') (fun ad e' j v hv => by rw [HDR.out] at hv; simp [curCells] at hv) (curCells_one _) (by unfold maxLen; omega) (by omega) HTc.out.size ?_; intro v4 w7 ho4 hg4; have hf4 := with_fin ho4 (show k + 1 + 0 = k + 1 by omega); obtain ⟨a7, c7, rfl⟩ := own_curV hf4; have ht4 := HTc.out.grown hg4 (fun j e' => (HO3.out.lt j e').1); have hx4 := fun o => cell_of_block0 ht4.bo o; have hy4 := fun o => unfrozen_of_block0 ht4.bo o; have hfin := ht4.fin hf4 (.slice a7 (k + 1) c7); have hz7 : w.heap.size + 1 < w7.heap.size := (by have h := ht4.le; have h2 := ht4.size; simp at h; omega); have hne7 : w.heap.size + 1 ≠ w4.heap.size := (by have h := ht4.le; simp at h; omega); have HF : Hid _ := hfin; have hc7 := fun o => ht4.bu.cell (p := ⟨w.heap.size + 1, o, none⟩) (by simp); have hff7 := fun o => ht4.bu.frozen (p := ⟨w.heap.size + 1, o, none⟩) (by simp); have HLN : Hid ((curs.take k ++ (g, first) :: curs.drop k).length = k + 1) := (show _ = _ by have := HL.out; simp; omega); clear ht4 ho4 hg4 hf4 hfin))
                  refine bodyPost_ret (v := ringOutV cap first a4 rl q4 a7 (k + 1) c7 0 0 ⟨#[]⟩ 0) (by simp [results, Tryz.results21, go_sem, hc7]) rfl ?_
                  exact ans_follow HE.out (by rw [HK.out]) HRL.out HLN.out HF.out.1 HF.out.2.1 (by simp) _ _ _ _ _ _ _ _
      · rw [if_pos rfl] at HCU
        have hE : Hid (followR cap first recs curs g = RO.ill 7) := HF2.out.trans (if_pos rfl)
        clear HF2
        go_wp2_with fail
        refine (HCU.out _ (curs_below HI.out.cur.curs HB2.out)).mono ?_
        rintro e w3 ⟨rfl, hb3⟩
        have HB3 : Hid (Below w.heap.size w w3) := below_tr HB2.out hb3
        have HW3 : Hid (Below (W2 w cap first ra rl rc ca cl cc).heap.size (W2 w cap first ra rl rc ca cl cc) w3) := below_tr HW2.out hb3
        clear hb3 hc2
        go_wp2_with fail
        refine (spec_ill 7 _).mono ?_
        rintro e w4 ⟨rfl, hb4⟩
        have HB4 : Hid (Below w.heap.size w w4) := below_tr HB3.out hb4
        have HW4 : Hid (Below (W2 w cap first ra rl rc ca cl cc).heap.size (W2 w cap first ra rl rc ca cl cc) w4) := below_tr HW3.out hb4
        clear hb4
        have hc4 := fun o => HW4.out.cell (p := ⟨w.heap.size + 1, o, none⟩) (by simp)
        have hf4 := fun o => HW4.out.frozen (p := ⟨w.heap.size + 1, o, none⟩) (by simp)
        go_wp2
        refine bodyPost_ret (v := ringIll 7) (by simp [results, Tryz.results21, go_sem, hc4]) rfl ?_
        rw [hE.out]
        exact ans_ill 7 HB4.out _ (by omega) _ _ _ _ _ _ _ _
    · rw [decide_eq_false hG] at HIS
      have hE : Hid (followR cap first recs curs g = RO.ill 1) := HF.out.trans (if_pos (.inr hG))
      clear HF hG
      go_wp2_with fail
      refine (HIS.out _).mono ?_
      rintro e w2' ⟨rfl, hw2⟩
      rw [hw2]
      clear hw2 w2'
      go_wp2_with fail
      refine (spec_ill 1 _).mono ?_
      rintro e w3 ⟨rfl, hb3⟩
      have HB3 : Hid (Below w.heap.size w w3) := below_tr HB2.out hb3
      have HW3 : Hid (Below (W2 w cap first ra rl rc ca cl cc).heap.size (W2 w cap first ra rl rc ca cl cc) w3) := below_tr HW2.out hb3
      clear hb3 hc2
      have hc3 := fun o => HW3.out.cell (p := ⟨w.heap.size + 1, o, none⟩) (by simp)
      have hf3 := fun o => HW3.out.frozen (p := ⟨w.heap.size + 1, o, none⟩) (by simp)
      go_wp2
      refine bodyPost_ret (v := ringIll 1) (by simp [results, Tryz.results21, go_sem, hc3]) rfl ?_
      rw [hE.out]
      exact ans_ill 1 HB3.out _ (by omega) _ _ _ _ _ _ _ _
end Go.Proofs.YtbbaghlmialaoaaGreatDoor
