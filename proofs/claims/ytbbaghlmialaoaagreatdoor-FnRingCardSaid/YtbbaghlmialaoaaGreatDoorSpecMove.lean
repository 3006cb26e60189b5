import Derived.Test.YtbbaghlmialaoaaGreatDoorLawRingOut0
import Derived.Test.YtbbaghlmialaoaaGreatDoorSpecLeave
/- Move of the program. -/
namespace Go.Proofs.YtbbaghlmialaoaaGreatDoor
open Go.RowKit
variable {cap first : Int} {ra ca : Option Addr} {rl rc cl cc : Nat}

def moveR (cap first : Int) (recs : List ByteArray) (curs : List (Int × Int)) (g at' : Int) : RO :=
  if ringRightB cap first recs curs = false then RO.ill 1 else if findB g curs = false then RO.ill 6
  else if at' < (curs.getD (findK g curs) (0, 0)).2 ∨ first + (recs.length : Int) < at' then RO.ill 8
  else trimR cap first recs (curs.take (findK g curs) ++ (g, at') :: curs.drop (findK g curs + 1))
set_option maxRecDepth 100000 in
set_option maxHeartbeats 4000000 in
theorem impl_move (recs : List ByteArray) (curs : List (Int × Int)) (g at' : Int) (w : World) (hi : RFit w ra rl rc ca cl cc recs curs) (hT : utabs w) :
    Calls Tryz.prog 12 #[ringV cap first ra rl rc ca cl cc, .int .i64 g, .int .i64 at'] w fun e w' => Answers w w' e (moveR cap first recs curs g at') := by
  have HI : Hid (RFit w ra rl rc ca cl cc recs curs) := hi
  have HT : Hid (utabs w) := hT
  have hcl : cl ≤ 1048576 := hi.cle
  have hrl : rl ≤ 1048576 := hi.rle
  have HL : Hid (curs.length = cl) := hi.cur.curs.1
  have HRL : Hid (recs.length = rl) := hi.str.strs.1
  clear hi hT
  have HB0 : Hid (Below w.heap.size w (W2 w cap first ra rl rc ca cl cc)) := w2_below ..
  go_enter Tryz.func12, Tryz.ntmps12
  go_wp2_with fail
  refine (impl_atWork _).mono ?_
  rintro e w1 ⟨rfl, hb1, hw1, hz1⟩
  obtain ⟨b, hb⟩ : ∃ b, (W2 w cap first ra rl rc ca cl cc).heap.size + 1 = b := ⟨_, rfl⟩
  have hbb : w.heap.size + 2 ≤ b := by rw [← hb]; simp
  rw [hb] at hw1 ⊢
  have HA : Hid _ := fun (_ : Unit) => impl_asked recs curs b w w1 HI.out.rin HT.out (below_tr HB0.out hb1) (by omega) hw1
  have HK : Hid (∀ w2, w1.grownBy w2 (some b) → Below (W2 w cap first ra rl rc ca cl cc).heap.size (W2 w cap first ra rl rc ca cl cc) w2) := fun w2 hg => keep_blocks hb1 hg (by simp; omega)
  clear hb1 hw1 hz1 hb
  obtain ⟨r, hr⟩ : ∃ r, moveR cap first recs curs g at' = r := ⟨_, rfl⟩
  obtain ⟨R, hR⟩ : ∃ R, ringRightB cap first recs curs = R := ⟨_, rfl⟩
  have HF : Hid _ := hr
  unfold moveR at HF
  rw [hR] at HA HF
  have HRR : Hid (R = true → (0 ≤ first ∧ first ≤ 1000000) ∧ (∀ c ∈ curs, first ≤ c.2 ∧ c.2 ≤ first + (rl : Int))) := fun h => by
    have h1 := right_first (hR.trans h)
    have h2 := (right_curs (hR.trans h)).1
    rw [HRL.out] at h2
    exact ⟨h1.1, h2⟩
  have HGO : Hid (moveR cap first recs curs g at' = r) := hr
  clear hr hR
  go_wp2_with fail
  refine (HA.out ()).mono ?_
  rintro e w2 ⟨rfl, hA2, hg2⟩
  have HA2 : Hid (Asked w w2 b cap first ra rl rc ca cl cc curs) := hA2
  have HW2 : Hid (Below (W2 w cap first ra rl rc ca cl cc).heap.size (W2 w cap first ra rl rc ca cl cc) w2) := HK.out w2 hg2
  clear hA2 hg2 HA HK
  have hc2 := fun o => HW2.out.cell (p := ⟨w.heap.size + 1, o, none⟩) (by simp)
  have hf2 := fun o => HW2.out.frozen (p := ⟨w.heap.size + 1, o, none⟩) (by simp)
  cases R
  · have hE : Hid (moveR cap first recs curs g at' = RO.ill 1) := HGO.out.trans (HF.out.symm.trans (if_pos rfl))
    clear HF
    go_wp2
    refine bodyPost_ret (v := ringIll 1) (by simp [results, Tryz.results12, go_sem, hc2]) rfl ?_
    rw [hE.out]
    exact ans_ill 1 HA2.out.below _ (by omega) _ _ _ _ _ _ _ _
  · have HRT := HRR.out rfl
    have HFT : Hid (0 ≤ first ∧ first ≤ 1000000) := HRT.1
    have HCR : Hid (∀ c ∈ curs, first ≤ c.2 ∧ c.2 ≤ first + (rl : Int)) := HRT.2
    clear HRT HRR
    obtain ⟨d, l, hW, hK⟩ := HA2.out.work
    have HW : Hid (Work w2 b cap first ra rl rc ca cl cc d 0 l) := hW
    clear hW hK
    have HF2 : Hid ((if findB g curs = false then RO.ill 6 else if at' < (curs.getD (findK g curs) (0, 0)).2 ∨ first + (recs.length : Int) < at' then RO.ill 8 else trimR cap first recs (curs.take (findK g curs) ++ (g, at') :: curs.drop (findK g curs + 1))) = r) := by
      have h := HF.out
      rw [if_neg (by simp)] at h
      exact h
    clear HF
    have HFO : Hid _ := fun (_ : Unit) => impl_follower b d 0 l g curs w2 HW.out (curs_below HI.out.cur.curs HA2.out.below) hcl
    have HKL : Hid (findB g curs = true → findK g curs < cl) := fun h => by rw [← HL.out]; exact find_lt h
    obtain ⟨K, hKe⟩ : ∃ K, findK g curs = K := ⟨_, rfl⟩
    obtain ⟨T, hTe⟩ : ∃ T, findB g curs = T := ⟨_, rfl⟩
    rw [hKe] at HFO HF2 HKL
    rw [hTe] at HFO HF2 HKL
    clear hKe hTe
    go_wp2_with fail
    refine (HFO.out ()).mono ?_
    rintro e w3 ⟨rfl, hb3⟩
    have HB3 : Hid (Below w.heap.size w w3) := below_tr HA2.out.below hb3
    have HW3 : Hid (Below (W2 w cap first ra rl rc ca cl cc).heap.size (W2 w cap first ra rl rc ca cl cc) w3) := below_tr HW2.out hb3
    have HWk3 : Hid (Work w3 b cap first ra rl rc ca cl cc d 0 l) := HW.out.below hb3
    clear hb3 HW hc2 hf2 HFO
    have hc3 := fun o => HW3.out.cell (p := ⟨w.heap.size + 1, o, none⟩) (by simp)
    have hf3 := fun o => HW3.out.frozen (p := ⟨w.heap.size + 1, o, none⟩) (by simp)
    have hd3 := fun o => HW3.out.cell (p := ⟨w.heap.size, o, none⟩) (by simp only [World.size_alloc]; omega)
    cases T
    · have hE : Hid (moveR cap first recs curs g at' = RO.ill 6) := HGO.out.trans (HF2.out.symm.trans (if_pos rfl))
      clear HF2
      go_wp2
      refine bodyPost_ret (v := ringIll 6) (by simp [results, Tryz.results12, go_sem, hc3]) rfl ?_
      rw [hE.out]
      exact ans_ill 6 HB3.out _ (by omega) _ _ _ _ _ _ _ _
    · have hKc := HKL.out rfl
      have hKl : K < curs.length := by rw [HL.out]; exact hKc
      obtain ⟨bc, oc, hca, hg0, ha0⟩ := (curs_below HI.out.cur.curs HB3.out).2 K hKl
      obtain ⟨G, A, hGA⟩ : ∃ G A, curs[K] = (G, A) := ⟨_, _, rfl⟩
      have hgd : curs.getD K (0, 0) = (G, A) := by rw [← hGA]; simp [hKl]
      rw [hGA] at hg0 ha0
      have HF3 : Hid ((if at' < A ∨ first + (rl : Int) < at' then RO.ill 8 else trimR cap first recs (curs.take K ++ (g, at') :: curs.drop (K + 1))) = r) := by
        have h := HF2.out
        rw [if_neg (by simp), hgd, HRL.out] at h
        exact h
      have HA0 : Hid (A = curs[K].2) := by show _ = _; rw [hGA]
      clear HF2 hgd hGA
      subst hca
      have hKi : (K : Int) < (cl : Int) := by omega
      by_cases hlo : at' < A
      · have hE : Hid (moveR cap first recs curs g at' = RO.ill 8) := HGO.out.trans (HF3.out.symm.trans (if_pos (.inl hlo)))
        clear HF3 HA0
        go_wp2
        refine bodyPost_ret (v := ringIll 8) (by simp [results, Tryz.results12, go_sem, hc3]) rfl ?_
        rw [hE.out]
        exact ans_ill 8 HB3.out _ (by omega) _ _ _ _ _ _ _ _
      go_wp2_with fail
      refine (impl_end b d 0 l _ HWk3.out HFT.out hrl).mono ?_
      rintro e w3e ⟨rfl, hb3e⟩
      have HB3e : Hid (Below w.heap.size w w3e) := below_tr HB3.out hb3e
      have HW3e : Hid (Below (W2 w cap first ra rl rc (some ⟨bc, oc, none⟩) cl cc).heap.size (W2 w cap first ra rl rc (some ⟨bc, oc, none⟩) cl cc) w3e) := below_tr HW3.out hb3e
      have HWk3e : Hid (Work w3e b cap first ra rl rc (some ⟨bc, oc, none⟩) cl cc d 0 l) := HWk3.out.below hb3e
      clear hb3e HWk3 HW3 HB3 hc3 hf3 hd3 hg0 ha0
      have hc3 := fun o => HW3e.out.cell (p := ⟨w.heap.size + 1, o, none⟩) (by simp)
      have hf3 := fun o => HW3e.out.frozen (p := ⟨w.heap.size + 1, o, none⟩) (by simp)
      have hd3 := fun o => HW3e.out.cell (p := ⟨w.heap.size, o, none⟩) (by simp only [World.size_alloc]; omega)
      by_cases hhi : first + (rl : Int) < at'
      · have hE : Hid (moveR cap first recs curs g at' = RO.ill 8) := HGO.out.trans (HF3.out.symm.trans (if_pos (.inr hhi)))
        clear HF3 HA0
        go_wp2
        refine bodyPost_ret (v := ringIll 8) (by simp [results, Tryz.results12, go_sem, hc3]) rfl ?_
        rw [hE.out]
        exact ans_ill 8 HB3e.out _ (by omega) _ _ _ _ _ _ _ _
      obtain ⟨cs, hcs⟩ : ∃ cs, curs.take K ++ (g, at') :: curs.drop (K + 1) = cs := ⟨_, rfl⟩
      have HCS : Hid (∀ c ∈ cs, first ≤ c.2 ∧ c.2 ≤ first + (rl : Int)) := fun c hc => by
        rw [← hcs] at hc
        rcases List.mem_append.1 hc with h | h
        · exact HCR.out c (List.mem_of_mem_take h)
        · rcases List.mem_cons.1 h with rfl | h
          · have h2 := HCR.out curs[K] (List.getElem_mem hKl)
            rw [← HA0.out] at h2
            exact ⟨by show first ≤ at'; omega, by show at' ≤ _; omega⟩
          · exact HCR.out c (List.mem_of_mem_drop h)
      have hE : Hid (moveR cap first recs curs g at' = trimR cap first recs cs) := HGO.out.trans (HF3.out.symm.trans (by rw [if_neg (by omega), hcs]))
      have HWO : Hid (∀ w, CurIn w (some ⟨bc, oc, none⟩) cl cc curs → Calls Tryz.prog 54 #[.slice (some ⟨bc, oc, none⟩) cl cc, .int .i64 K] w fun e w' => ∃ a' c', e = .returned (.slice a' (cl - 1) c') ∧ CurIn w' a' (cl - 1) c' (curs.take K ++ curs.drop (K + 1)) ∧ Below w.heap.size w w' ∧ c' ≤ maxLen) := fun w h => impl_withoutM _ cl cc K curs w h hKc HI.out.ccm hcl
      have HMV : Hid ((curs.take K ++ curs.drop (K + 1)).take K ++ (g, at') :: (curs.take K ++ curs.drop (K + 1)).drop K = cs) := by
        show _ = _
        rw [← hcs]
        have hlt : (curs.take K).length = K := by simp; omega
        rw [List.take_append_of_le_length (by omega), List.take_of_length_le (by omega), List.drop_append_of_le_length (by omega), List.drop_eq_nil_of_le (by omega)]
        simp
      have HIN := curLeast_in first (first + (rl : Int)) cs (by omega) HCS.out
      obtain ⟨P, hP⟩ : ∃ P : Nat, curLeast first cs = first + (P : Int) := ⟨(curLeast first cs - first).toNat, by omega⟩
      have hPl : P ≤ rl := by omega
      have HPE : Hid (curLeast first cs = first + (P : Int)) := hP
      clear HF3 hcs HIN hP HA0
      go_wp2_with fail
      refine (HWO.out _ (HI.out.cur.below HB3e.out)).mono ?_
      rintro e w4' ⟨a4', c4', rfl, hci4', hb4', hmx4⟩
      have HMX4 : Hid (c4' ≤ maxLen) := hmx4
      have HC4' : Hid (CurIn w4' a4' (cl - 1) c4' (curs.take K ++ curs.drop (K + 1))) := hci4'
      have HB4' : Hid (Below w.heap.size w w4') := below_tr HB3e.out hb4'
      have HW4' : Hid (Below (W2 w cap first ra rl rc (some ⟨bc, oc, none⟩) cl cc).heap.size (W2 w cap first ra rl rc (some ⟨bc, oc, none⟩) cl cc) w4') := below_tr HW3e.out hb4'
      have HWk4' : Hid (Work w4' b cap first ra rl rc (some ⟨bc, oc, none⟩) cl cc d 0 l) := HWk3e.out.below hb4'
      clear hci4' hb4' HWk3e hmx4
      go_wp2_with fail
      refine (impl_withC a4' (cl - 1) c4' K _ g at' _ HC4'.out (by omega) HMX4.out (by omega)).mono ?_
      rintro e w4 ⟨a4, c4, rfl, hci4, hb4⟩
      have HC4 : Hid (CurIn w4 a4 (cl - 1 + 1) c4 cs) := by rw [HMV.out] at hci4; exact hci4
      have HB4 : Hid (Below w.heap.size w w4) := below_tr HB4'.out hb4
      have HW4 : Hid (Below (W2 w cap first ra rl rc (some ⟨bc, oc, none⟩) cl cc).heap.size (W2 w cap first ra rl rc (some ⟨bc, oc, none⟩) cl cc) w4) := below_tr HW4'.out hb4
      have HWk4 : Hid (Work w4 b cap first ra rl rc (some ⟨bc, oc, none⟩) cl cc d 0 l) := HWk4'.out.below hb4
      clear hci4 hb4 HWk4' HC4'
      go_wp2_with fail
      refine (impl_withCursors b d 0 l a4 (cl - 1 + 1) c4 _ HWk4.out).mono ?_
      rintro e w5 ⟨rfl, hb5⟩
      have HC5 : Hid (CurIn w5 a4 (cl - 1 + 1) c4 cs) := HC4.out.below hb5
      have HB5 : Hid (Below w.heap.size w w5) := below_tr HB4.out hb5
      have HW5 : Hid (Below (W2 w cap first ra rl rc (some ⟨bc, oc, none⟩) cl cc).heap.size (W2 w cap first ra rl rc (some ⟨bc, oc, none⟩) cl cc) w5) := below_tr HW4.out hb5
      clear hb5 HC4 HWk4
      go_wp2_with fail
      refine (impl_atWork _).mono ?_
      rintro e w6 ⟨rfl, hb6, hw6, _⟩
      obtain ⟨b2, hb2⟩ : ∃ b2, w5.heap.size + 1 = b2 := ⟨_, rfl⟩
      rw [hb2] at hw6 ⊢
      have HB6 : Hid (Below w.heap.size w w6) := below_tr HB5.out hb6
      have HOF : Hid (Off b2 a4) := fun x e => by have := HC5.out.lt x e; omega
      have HPS : Hid _ := fun (_ : Unit) => impl_withoutPassed b2 0 0 recs cs P w6 hw6 (.inl rfl) (curs_below HC5.out.curs hb6) HOF.out (by omega) (HI.out.str.below HB6.out) (by omega) HI.out.rcm HFT.out HPE.out hPl
      have HK6 : Hid (∀ w7, w6.grownBy w7 (some b2) → Below w5.heap.size w5 w7) := fun w7 hg => keep_blocks hb6 hg (by omega)
      clear hb6 hw6 hb2
      go_wp2_with fail
      refine (HPS.out ()).mono ?_
      rintro e w7 ⟨rfl, hg7⟩
      have hb7 := HK6.out w7 hg7
      have HC7 : Hid (CurIn w7 a4 (cl - 1 + 1) c4 cs) := HC5.out.below hb7
      have HB7 : Hid (Below w.heap.size w w7) := below_tr HB5.out hb7
      have HW7 : Hid (Below (W2 w cap first ra rl rc (some ⟨bc, oc, none⟩) cl cc).heap.size (W2 w cap first ra rl rc (some ⟨bc, oc, none⟩) cl cc) w7) := below_tr HW5.out hb7
      have HS7 : Hid (StrIn w7 (cutAt ra 1 P rl) (rl - P) (rl - P) (recs.drop P)) := cut_strIn (HI.out.str.below HB7.out) hPl
      have hz7 : w.heap.size + 1 < w7.heap.size := by have h := HW7.out.size; simp at h; omega
      clear hg7 hb7 HPS HK6
      obtain ⟨ra', hra'⟩ : ∃ ra', cutAt ra 1 P rl = ra' := ⟨_, rfl⟩
      rw [hra'] at HS7 ⊢
      clear hra'
      go_wp2_with fail
      refine (impl_copyRing cap (first + (P : Int)) ra' (rl - P) (rl - P) a4 (cl - 1 + 1) c4 (recs.drop P) cs _ HS7.out HC7.out (fun s hs => HI.out.sz s (List.mem_of_mem_drop hs)) (by omega) (by omega)).mono ?_
      rintro e w8 ⟨a, q, c, p, rfl, ho8, hb8⟩
      have HB8 : Hid (Below w.heap.size w w8) := below_tr HB7.out hb8
      have HW8 : Hid (Below (W2 w cap first ra rl rc (some ⟨bc, oc, none⟩) cl cc).heap.size (W2 w cap first ra rl rc (some ⟨bc, oc, none⟩) cl cc) w8) := below_tr HW7.out hb8
      have HO8 : Hid (OwnRing w8 w7.heap.size a (rl - P) q c (cl - 1 + 1) p ((recs.drop P).map Value.string) (curCells cs)) := ho8
      clear hb8 ho8 hc3 hf3 hd3
      have hc8 := fun o => HW8.out.cell (p := ⟨w.heap.size + 1, o, none⟩) (by simp)
      have hf8 := fun o => HW8.out.frozen (p := ⟨w.heap.size + 1, o, none⟩) (by simp)
      go_wp2
      refine bodyPost_ret (v := ringOutV cap (first + (P : Int)) a (rl - P) q c (cl - 1 + 1) p 0 0 ⟨#[]⟩ 0) (by simp [results, Tryz.results12, go_sem, hc8]) rfl ?_
      rw [hE.out]
      exact ans_trim HPE.out HO8.out HB8.out (by omega) hz7 _ _ _ _ _ _ _ _
end Go.Proofs.YtbbaghlmialaoaaGreatDoor
/- Move of the specification. -/
namespace Go.Proofs.YtbbaghlmialaoaaGreatDoor
open Go.RowKit
variable {cap first : Int} {ra ca : Option Addr} {rl rc cl cc : Nat}

theorem curCells_set (l : List (Int × Int)) (K : Nat) (h : K < l.length) (x : Int) : (curCells l).set (K * 2 + 1) (.int .i64 x) = curCells (l.take K ++ (l[K].1, x) :: l.drop (K + 1)) := by
  have e : curCells l = curCells (l.take K) ++ curCells (l[K] :: l.drop (K + 1)) := by
    rw [← curCells_append]; congr 1; simp
  have hl : (curCells (l.take K)).length = K * 2 := by rw [curCells_length, List.length_take]; omega
  rw [e, curCells_append, List.set_append_right _ _ (by omega), hl]
  congr 1
  rw [show K * 2 + 1 - K * 2 = 1 by omega]
  rfl
theorem move_end {w w7 : World} {base base' n q m p : Nat} {a c : Option Addr} {xs ys : List Value} (hB : Below w.heap.size w w7) (hx : w7.ownsRow base 9 1 (.slice a n q) n xs) (hy : w7.ownsRow base' 47 2 (.slice c m p) m ys) (hb : w.heap.size + 2 ≤ base) (hb' : w.heap.size + 2 ≤ base') (v0 v1 v2 v3 : Value) :
    OwnRing ((((w7.setCell ⟨w.heap.size + 1, 0, none⟩ v0).setCell ⟨w.heap.size + 1, 1, none⟩ v1).setCell ⟨w.heap.size + 1, 2, none⟩ v2).setCell ⟨w.heap.size + 1, 3, none⟩ v3) w.heap.size a n q c m p xs ys ∧ Below w.heap.size w ((((w7.setCell ⟨w.heap.size + 1, 0, none⟩ v0).setCell ⟨w.heap.size + 1, 1, none⟩ v1).setCell ⟨w.heap.size + 1, 2, none⟩ v2).setCell ⟨w.heap.size + 1, 3, none⟩ v3) := by
  have r1 : w.heap.size + 1 < base := by omega
  have r2 : w.heap.size + 1 < base' := by omega
  have k1 : w.heap.size ≤ w.heap.size + 1 := by omega
  refine ⟨⟨?_, ?_⟩, ?_⟩
  · exact (ownsRow_setCell_below (ownsRow_setCell_below (ownsRow_setCell_below (ownsRow_setCell_below hx (a := ⟨w.heap.size + 1, 0, none⟩) r1 _) (a := ⟨w.heap.size + 1, 1, none⟩) r1 _) (a := ⟨w.heap.size + 1, 2, none⟩) r1 _) (a := ⟨w.heap.size + 1, 3, none⟩) r1 _).mono (by omega)
  · exact (ownsRow_setCell_below (ownsRow_setCell_below (ownsRow_setCell_below (ownsRow_setCell_below hy (a := ⟨w.heap.size + 1, 0, none⟩) r2 _) (a := ⟨w.heap.size + 1, 1, none⟩) r2 _) (a := ⟨w.heap.size + 1, 2, none⟩) r2 _) (a := ⟨w.heap.size + 1, 3, none⟩) r2 _).mono (by omega)
  · exact (((hB.setCell (p := ⟨w.heap.size + 1, 0, none⟩) k1 _).setCell (p := ⟨w.heap.size + 1, 1, none⟩) k1 _).setCell (p := ⟨w.heap.size + 1, 2, none⟩) k1 _).setCell (p := ⟨w.heap.size + 1, 3, none⟩) k1 _
set_option maxRecDepth 100000 in
set_option maxHeartbeats 1000000 in
theorem spec_lmove (recs : List ByteArray) (curs cs : List (Int × Int)) (K P : Nat) (x : Int) (w : World) (hr : StrIn w ra rl rc recs) (hc : CurIn w ca cl cc curs) (hrl : rl ≤ 1048576) (hcl : cl ≤ 1048576) (hK : K < cl) (hcs : (curCells curs).set (K * 2 + 1) (.int .i64 x) = curCells cs) (hf : 0 ≤ first ∧ first ≤ 1000000) (hP : curLeast first cs = first + (P : Int)) (hPl : P ≤ rl) :
    Calls Tryz.prog 69 #[ringV cap first ra rl rc ca cl cc, .int .i64 K, .int .i64 x] w fun e w' => ∃ a q c p, e = .returned (ringV cap (first + (P : Int)) a (rl - P) q c cl p) ∧ OwnRing w' w.heap.size a (rl - P) q c cl p ((recs.drop P).map Value.string) (curCells cs) ∧ Below w.heap.size w w' := by
  have HR : Hid (StrIn w ra rl rc recs) := hr
  have HC : Hid (CurIn w ca cl cc curs) := hc
  have HLC : Hid (curs.length = cl) := hc.curs.1
  have HPE : Hid (curLeast first cs = first + (P : Int)) := hP
  have HFT : Hid (0 ≤ first ∧ first ≤ 1000000) := hf
  have HCS : Hid ((curCells curs).set (K * 2 + 1) (.int .i64 x) = curCells cs) := hcs
  have HS0 : Hid (SCopy w ((w.alloc (ringObj cap first ra rl rc ca cl cc)).alloc (ringObj 0 0 none 0 0 none 0 0)) cap first ra rl rc ca cl cc) := scopy_start w cap first ra rl rc ca cl cc
  clear hr hc hP hf hcs
  go_enter Tryz.func69, Tryz.ntmps69
  go_wp2_with fail
  refine (spec_copy recs curs _ (HR.out.below HS0.out.below) (HC.out.below HS0.out.below) (by omega) (by omega)).mono ?_
  rintro e w4 ⟨a4, q4, c4, p4, rfl, ho4, hb4⟩
  have e0 : ((w.alloc (ringObj cap first ra rl rc ca cl cc)).alloc (ringObj 0 0 none 0 0 none 0 0)).heap.size = w.heap.size + 2 := by simp
  rw [e0] at ho4
  have hs4 := HS0.out.grown (below_grown hb4) (fun j e => by cases e)
  obtain ⟨g4, rfl⟩ := own_form ho4.2 (by omega)
  have hg4 := (ho4.2.lt g4 rfl).2
  have hg4' := (ho4.2.lt g4 rfl).1
  have hcell := ho4.2.cellAt (K * 2 + 1) (by omega)
  obtain ⟨y, hy⟩ : ∃ y, (curCells curs)[K * 2 + 1]? = some y := ⟨_, List.getElem?_eq_getElem (by rw [curCells_length, HLC.out]; omega)⟩
  rw [hy] at hcell
  have hfr := ho4.2.frozenAt (K * 2 + 1)
  clear hy
  obtain ⟨hs5, hg5⟩ := ho4.2.stored (K * 2 + 1) (.int .i64 x)
  rw [HCS.out] at hs5
  have HX6 : Hid (((w4.setCell ⟨g4, K * 2 + 1, none⟩ (.int .i64 x)).alloc (ringObj cap first a4 rl q4 (some ⟨g4, 0, none⟩) cl p4)).ownsRow (w.heap.size + 2) 9 1 (.slice a4 rl q4) rl (recs.map Value.string)) := (ho4.1.kept hg5 (own_apart ho4.1 ho4.2)).alloc (ringObj cap first a4 rl q4 (some ⟨g4, 0, none⟩) cl p4)
  have HS6 : Hid (SCopy w ((w4.setCell ⟨g4, K * 2 + 1, none⟩ (.int .i64 x)).alloc (ringObj cap first a4 rl q4 (some ⟨g4, 0, none⟩) cl p4)) cap first ra rl rc ca cl cc) := (hs4.grown hg5 (fun j e => (ho4.2.lt j e).1)).alloc (ringObj cap first a4 rl q4 (some ⟨g4, 0, none⟩) cl p4)
  have HY6 : Hid (((w4.setCell ⟨g4, K * 2 + 1, none⟩ (.int .i64 x)).alloc (ringObj cap first a4 rl q4 (some ⟨g4, 0, none⟩) cl p4)).ownsRow (w.heap.size + 2) 47 2 (.slice (some ⟨g4, 0, none⟩) cl p4) cl (curCells cs)) := hs5.alloc (ringObj cap first a4 rl q4 (some ⟨g4, 0, none⟩) cl p4)
  have hz6 : w.heap.size + 2 ≤ w4.heap.size := by omega
  clear hs5 hs4 ho4 hb4 hg5 e0
  go_wp2_with fail
  obtain ⟨a4', q4', e4, hS4⟩ := own_strIn HX6.out
  simp only [Value.slice.injEq] at e4
  obtain ⟨rfl, _, rfl⟩ := e4
  have HSI : Hid (StrIn ((w4.setCell ⟨g4, K * 2 + 1, none⟩ (.int .i64 x)).alloc (ringObj cap first a4 rl q4 (some ⟨g4, 0, none⟩) cl p4)) a4 rl q4 recs) := hS4
  clear hS4
  refine (spec_trim recs cs P _ HSI.out (own_curs HY6.out) (by omega) (by omega) (own_capMax HX6.out) HFT.out HPE.out hPl).mono ?_
  rintro e w7 ⟨a7, q7, rfl, ho7, hb7⟩
  have hs7 := HS6.out.grown (below_grown hb7) (fun j e => by cases e)
  have hy7 := HY6.out.kept (below_grown hb7) (.inr (by simp [Value.ownBlock]))
  have g2 := fun o => cell_of_block0 hs7.b1 o
  have f2 := fun o => unfrozen_of_block0 hs7.b1 o
  have HF : Hid _ := move_end hs7.below ho7 hy7 HS6.out.size (Nat.le_refl _)
  clear hs7 hy7 ho7 hb7 hcell hfr
  go_wp2
  exact bodyPost_ret (v := ringV cap (first + (P : Int)) a7 (rl - P) q7 (some ⟨g4, 0, none⟩) cl p4) (by simp [results, Tryz.results69, go_sem, g2]) rfl ⟨a7, q7, _, p4, rfl, (HF.out _ _ _ _).1, (HF.out _ _ _ _).2⟩
set_option maxRecDepth 100000 in
set_option maxHeartbeats 1000000 in
theorem spec_move (recs : List ByteArray) (curs : List (Int × Int)) (g at' : Int) (w : World) (hi : RFit w ra rl rc ca cl cc recs curs) :
    Calls Tryz.prog 22 #[ringV cap first ra rl rc ca cl cc, .int .i64 g, .int .i64 at'] w fun e w' => Answers w w' e (moveR cap first recs curs g at') := by
  have HI : Hid (RFit w ra rl rc ca cl cc recs curs) := hi
  have hcl : cl ≤ 1048576 := hi.cle
  have hrl : rl ≤ 1048576 := hi.rle
  have HL : Hid (curs.length = cl) := hi.cur.curs.1
  have HRL : Hid (recs.length = rl) := hi.str.strs.1
  have HSR : Hid _ := fun w (hi : RFit w ra rl rc ca cl cc recs curs) => spec_ringRight cap first ra rl rc ca cl cc recs curs w hi.str.strs hi.cur.curs hi.rin.sz' hi.rle hi.cle
  clear hi
  have HB0 : Hid (Below w.heap.size w (W2 w cap first ra rl rc ca cl cc)) := w2_below ..
  obtain ⟨r, hr⟩ : ∃ r, moveR cap first recs curs g at' = r := ⟨_, rfl⟩
  obtain ⟨R, hR⟩ : ∃ R, ringRightB cap first recs curs = R := ⟨_, rfl⟩
  have HF : Hid _ := hr
  unfold moveR at HF
  rw [hR] at HSR HF
  have HRR : Hid (R = true → (0 ≤ first ∧ first ≤ 1000000) ∧ (∀ c ∈ curs, first ≤ c.2 ∧ c.2 ≤ first + (rl : Int)) ∧ rises curs) := fun h => by
    have h1 := right_first (hR.trans h)
    have h2 := right_curs (hR.trans h)
    rw [HRL.out] at h2
    exact ⟨h1.1, h2.1, h2.2⟩
  have HGO : Hid (moveR cap first recs curs g at' = r) := hr
  clear hr hR
  go_enter Tryz.func22, Tryz.ntmps22
  go_wp2_with fail
  refine (HSR.out _ (HI.out.below HB0.out)).mono ?_
  rintro e w2 ⟨rfl, hb2⟩
  have HB2 : Hid (Below w.heap.size w w2) := below_tr HB0.out hb2
  have HW2 : Hid (Below (W2 w cap first ra rl rc ca cl cc).heap.size (W2 w cap first ra rl rc ca cl cc) w2) := hb2
  clear hb2 HSR
  have hc2 := fun o => HW2.out.cell (p := ⟨w.heap.size, o, none⟩) (by simp only [World.size_alloc]; omega)
  cases R
  · have hE : Hid (moveR cap first recs curs g at' = RO.ill 1) := HGO.out.trans (HF.out.symm.trans (if_pos rfl))
    clear HF
    go_wp2_with fail
    refine (spec_ill 1 _).mono ?_
    rintro e w3 ⟨rfl, hb3⟩
    have HB3 : Hid (Below w.heap.size w w3) := below_tr HB2.out hb3
    have HW3 : Hid (Below (W2 w cap first ra rl rc ca cl cc).heap.size (W2 w cap first ra rl rc ca cl cc) w3) := below_tr HW2.out hb3
    clear hb3 hc2
    have hc3 := fun o => HW3.out.cell (p := ⟨w.heap.size + 1, o, none⟩) (by simp)
    have hf3 := fun o => HW3.out.frozen (p := ⟨w.heap.size + 1, o, none⟩) (by simp)
    go_wp2
    refine bodyPost_ret (v := ringIll 1) (by simp [results, Tryz.results22, go_sem, hc3]) rfl ?_
    rw [hE.out]
    exact ans_ill 1 HB3.out _ (by omega) _ _ _ _ _ _ _ _
  · have HRT := HRR.out rfl
    have HFT : Hid (0 ≤ first ∧ first ≤ 1000000) := HRT.1
    have HCR : Hid (∀ c ∈ curs, first ≤ c.2 ∧ c.2 ≤ first + (rl : Int)) := HRT.2.1
    have HRI : Hid (rises curs) := HRT.2.2
    clear HRT HRR
    have HF2 : Hid ((if findB g curs = false then RO.ill 6 else if at' < (curs.getD (findK g curs) (0, 0)).2 ∨ first + (recs.length : Int) < at' then RO.ill 8 else trimR cap first recs (curs.take (findK g curs) ++ (g, at') :: curs.drop (findK g curs + 1))) = r) := by
      have h := HF.out
      rw [if_neg (by simp)] at h
      exact h
    clear HF
    have HCU : Hid _ := fun w hc => spec_cursor cap first ra rl rc ca cl cc g curs w hc HRI.out hcl
    have HKL : Hid (findB g curs = true → findK g curs < cl ∧ ∀ (hk : findK g curs < curs.length), curs[findK g curs].1 = g) := fun h => ⟨by rw [← HL.out]; exact find_lt h, fun hk => by unfold findB at h; rw [List.getElem?_eq_getElem hk] at h; simpa using h⟩
    unfold curIx at HCU
    obtain ⟨K, hKe⟩ : ∃ K, findK g curs = K := ⟨_, rfl⟩
    obtain ⟨T, hTe⟩ : ∃ T, findB g curs = T := ⟨_, rfl⟩
    rw [hKe] at HCU HF2 HKL
    rw [hTe] at HCU HF2 HKL
    clear hKe hTe
    cases T
    · rw [if_neg (by simp)] at HCU
      have hE : Hid (moveR cap first recs curs g at' = RO.ill 6) := HGO.out.trans (HF2.out.symm.trans (if_pos rfl))
      clear HF2
      go_wp2_with fail
      refine (HCU.out _ (curs_below HI.out.cur.curs HB2.out)).mono ?_
      rintro e w3 ⟨rfl, hb3⟩
      have HB3 : Hid (Below w.heap.size w w3) := below_tr HB2.out hb3
      have HW3 : Hid (Below (W2 w cap first ra rl rc ca cl cc).heap.size (W2 w cap first ra rl rc ca cl cc) w3) := below_tr HW2.out hb3
      clear hb3 hc2
      go_wp2_with fail
      refine (spec_ill 6 _).mono ?_
      rintro e w4 ⟨rfl, hb4⟩
      have HB4 : Hid (Below w.heap.size w w4) := below_tr HB3.out hb4
      have HW4 : Hid (Below (W2 w cap first ra rl rc ca cl cc).heap.size (W2 w cap first ra rl rc ca cl cc) w4) := below_tr HW3.out hb4
      clear hb4
      have hc4 := fun o => HW4.out.cell (p := ⟨w.heap.size + 1, o, none⟩) (by simp)
      have hf4 := fun o => HW4.out.frozen (p := ⟨w.heap.size + 1, o, none⟩) (by simp)
      go_wp2
      refine bodyPost_ret (v := ringIll 6) (by simp [results, Tryz.results22, go_sem, hc4]) rfl ?_
      rw [hE.out]
      exact ans_ill 6 HB4.out _ (by omega) _ _ _ _ _ _ _ _
    · rw [if_pos rfl] at HCU
      have hKc := (HKL.out rfl).1
      have hkl : K < curs.length := by rw [HL.out]; exact hKc
      have hKg := (HKL.out rfl).2 hkl
      obtain ⟨A, hA⟩ : ∃ A, curs[K].2 = A := ⟨_, rfl⟩
      have hgd : (curs.getD K (0, 0)).2 = A := by rw [← hA]; simp [hkl]
      have HF3 : Hid ((if at' < A ∨ first + (rl : Int) < at' then RO.ill 8 else trimR cap first recs (curs.take K ++ (g, at') :: curs.drop (K + 1))) = r) := by
        have h := HF2.out
        rw [if_neg (by simp), hgd, HRL.out] at h
        exact h
      have HAT : Hid (∀ u, Below w.heap.size w u → ∃ b off, ca = some ⟨b, off, none⟩ ∧ u.cell? ⟨b, off + K * 2 + 1, none⟩ = some (.int .i64 A)) := fun u hu => by
        obtain ⟨b, off, e, _, hd⟩ := (curs_below HI.out.cur.curs hu).2 K hkl
        exact ⟨b, off, e, by rw [hd, hA]⟩
      have HCS0 : Hid ((curCells curs).set (K * 2 + 1) (.int .i64 at') = curCells (curs.take K ++ (g, at') :: curs.drop (K + 1))) := show _ = _ by rw [curCells_set curs K hkl at', hKg]
      obtain ⟨cs, hcs⟩ : ∃ cs, curs.take K ++ (g, at') :: curs.drop (K + 1) = cs := ⟨_, rfl⟩
      have HCSI : Hid (A ≤ at' ∧ at' ≤ first + (rl : Int) → ∀ c ∈ cs, first ≤ c.2 ∧ c.2 ≤ first + (rl : Int)) := fun hq c hc => by
        have hA1 := (HCR.out curs[K] (List.getElem_mem hkl)).1
        rw [hA] at hA1
        rw [← hcs] at hc
        rcases List.mem_append.1 hc with h | h
        · exact HCR.out c (List.mem_of_mem_take h)
        · rcases List.mem_cons.1 h with h | h
          · subst h; exact ⟨by show first ≤ at'; omega, by show at' ≤ _; omega⟩
          · exact HCR.out c (List.mem_of_mem_drop h)
      rw [hcs] at HF3 HCS0
      clear HF2 hcs hgd hA hKg hkl HKL
      go_wp2_with fail
      refine (HCU.out _ (curs_below HI.out.cur.curs HB2.out)).mono ?_
      rintro e w3 ⟨rfl, hb3⟩
      have HB3 : Hid (Below w.heap.size w w3) := below_tr HB2.out hb3
      have HW3 : Hid (Below (W2 w cap first ra rl rc ca cl cc).heap.size (W2 w cap first ra rl rc ca cl cc) w3) := below_tr HW2.out hb3
      clear hb3 hc2 HCU
      obtain ⟨b, off, rfl, hd3⟩ := HAT.out w3 HB3.out
      have hc3 := fun o => HW3.out.cell (p := ⟨w.heap.size, o, none⟩) (by simp only [World.size_alloc]; omega)
      have hff : 0 ≤ first ∧ first ≤ 1000000 := HFT.out
      go_upto_region 6 with fail
      go_cut [28] (fun t wc => t = .bool (!decide (A ≤ at' ∧ at' ≤ first + (rl : Int))) ∧ Hid (Below w.heap.size w wc) ∧ Hid (Below (W2 w cap first ra rl rc (some ⟨b, off, none⟩) cl cc).heap.size (W2 w cap first ra rl rc (some ⟨b, off, none⟩) cl cc) wc))
      case first =>
        go_region_with (first
          | (go_at_call 64; refine (spec_end cap first ra rl rc (some ⟨b, off, none⟩) cl cc _ hff (by omega)).mono ?_; rintro e w5 ⟨rfl, hb5⟩; have HB5 : Hid (Below w.heap.size w w5) := below_tr HB3.out.drew hb5; have HW5 : Hid (Below (W2 w cap first ra rl rc (some ⟨b, off, none⟩) cl cc).heap.size (W2 w cap first ra rl rc (some ⟨b, off, none⟩) cl cc) w5) := below_tr HW3.out.drew hb5; clear hb5; have hc5 := fun o => HW5.out.cell (p := ⟨w.heap.size, o, none⟩) (by simp only [World.size_alloc]; omega); have hd5 : w5.cell? ⟨b, off + K * 2 + 1, none⟩ = some (.int .i64 A) := (by obtain ⟨b', off', e', h'⟩ := HAT.out w5 HB5.out; cases e'; exact h'))
          | (go_at_call 63; refine (spec_is _ _ _ _).mono ?_; rintro e w6 ⟨rfl, hw6⟩; rw [hw6]; clear hw6 w6))
        all_goals (go_wp2_with fail; go_meet; exact ⟨by simp, HB5, HW5⟩)
      case rest =>
      obtain ⟨rfl, HB5, HW5⟩ := hcut
      clear hc3 hd3 HB3 HW3
      have hc5 := fun o => HW5.out.cell (p := ⟨w.heap.size, o, none⟩) (by simp only [World.size_alloc]; omega)
      by_cases hq : A ≤ at' ∧ at' ≤ first + (rl : Int)
      · have hE : Hid (moveR cap first recs curs g at' = trimR cap first recs cs) := HGO.out.trans (HF3.out.symm.trans (if_neg (by omega)))
        have HIN := curLeast_in first (first + (rl : Int)) cs (by omega) (HCSI.out hq)
        obtain ⟨P, hP⟩ : ∃ P : Nat, curLeast first cs = first + (P : Int) := ⟨(curLeast first cs - first).toNat, by omega⟩
        have hPl : P ≤ rl := by omega
        have HPE : Hid (curLeast first cs = first + (P : Int)) := hP
        clear hP HIN HF3
        simp only [hq, and_self, decide_true, Bool.not_true]
        go_wp2_with fail
        refine (spec_lmove recs curs cs K P at' _ (HI.out.str.below HB5.out) (HI.out.cur.below HB5.out) (by omega) (by omega) hKc HCS0.out hff HPE.out hPl).mono ?_
        rintro e w9 ⟨a9, q9, c9, p9, rfl, ho9, hb9⟩
        have HW9 : Hid (Below (W2 w cap first ra rl rc (some ⟨b, off, none⟩) cl cc).heap.size (W2 w cap first ra rl rc (some ⟨b, off, none⟩) cl cc) w9) := below_tr HW5.out hb9
        have HB9 : Hid (Below w.heap.size w w9) := below_tr HB5.out hb9
        have HO9 : Hid (OwnRing w9 _ a9 (rl - P) q9 c9 cl p9 ((recs.drop P).map Value.string) (curCells cs)) := ho9
        clear hb9 ho9 hc5
        have hc9 := fun o => HW9.out.cell (p := ⟨w.heap.size + 1, o, none⟩) (by simp)
        have hf9 := fun o => HW9.out.frozen (p := ⟨w.heap.size + 1, o, none⟩) (by simp)
        go_wp2
        refine bodyPost_ret (v := ringOutV cap (first + (P : Int)) a9 (rl - P) q9 c9 cl p9 0 0 ⟨#[]⟩ 0) (by simp [results, Tryz.results22, go_sem, hc9]) rfl ?_
        rw [hE.out]
        exact ans_trim HPE.out HO9.out HB9.out (by omega) (by have h := HW5.out.size; simp only [World.size_alloc] at h; omega) _ _ _ _ _ _ _ _
      · have hE : Hid (moveR cap first recs curs g at' = RO.ill 8) := HGO.out.trans (HF3.out.symm.trans (if_pos (by omega)))
        clear HF3
        simp only [hq, decide_false, Bool.not_false]
        go_wp2_with fail
        refine (spec_ill 8 _).mono ?_
        rintro e w6 ⟨rfl, hb6⟩
        have HB6 : Hid (Below w.heap.size w w6) := below_tr HB5.out hb6
        have HW6 : Hid (Below (W2 w cap first ra rl rc (some ⟨b, off, none⟩) cl cc).heap.size (W2 w cap first ra rl rc (some ⟨b, off, none⟩) cl cc) w6) := below_tr HW5.out hb6
        clear hb6
        have hc6 := fun o => HW6.out.cell (p := ⟨w.heap.size + 1, o, none⟩) (by simp)
        have hf6 := fun o => HW6.out.frozen (p := ⟨w.heap.size + 1, o, none⟩) (by simp)
        go_wp2
        refine bodyPost_ret (v := ringIll 8) (by simp [results, Tryz.results22, go_sem, hc6]) rfl ?_
        rw [hE.out]
        exact ans_ill 8 HB6.out _ (by omega) _ _ _ _ _ _ _ _
end Go.Proofs.YtbbaghlmialaoaaGreatDoor
