/- Move of the program. -/
import Derived.Test.YtgjomkgbpfklkaaGreatDoorRingLeave
namespace Go.Proofs.YtgjomkgbpfklkaaGreatDoor
open Go.RowKit
variable {cap first : Int} {ra ca : Option Addr} {rl rc cl cc : Nat}

def moveR (cap first : Int) (recs : List ByteArray) (curs : List (Int × Int)) (g at' : Int) : RO :=
  if ringRightB cap first recs curs = false then RO.ill 1 else if findB g curs = false then RO.ill 6
  else if at' < (curs.getD (findK g curs) (0, 0)).2 ∨ first + (recs.length : Int) < at' then RO.ill 8
  else trimR cap first recs (curs.take (findK g curs) ++ (g, at') :: curs.drop (findK g curs + 1))
set_option maxRecDepth 100000 in
set_option maxHeartbeats 4000000 in
theorem impl_move (recs : List ByteArray) (curs : List (Int × Int)) (g at' : Int) (w : World) (hi : RFit w ra rl rc ca cl cc recs curs) (hT : utabs w) :
    Calls Tryz.prog 13 #[ringV cap first ra rl rc ca cl cc, .int .i64 g, .int .i64 at'] w fun e w' => Answers w w' e (moveR cap first recs curs g at') := by
  have HI : Hid (RFit w ra rl rc ca cl cc recs curs) := hi
  have HT : Hid (utabs w) := hT
  have hcl : cl ≤ 1048576 := hi.cle
  have hrl : rl ≤ 1048576 := hi.rle
  have HL : Hid (curs.length = cl) := hi.cur.curs.1
  have HRL : Hid (recs.length = rl) := hi.str.strs.1
  clear hi hT
  have HB0 : Hid (Below w.heap.size w (W2 w cap first ra rl rc ca cl cc)) := w2_below ..
  go_enter Tryz.func13, Tryz.ntmps13
  go_wp2_with fail
  refine (impl_atWork _).mono ?_
  rintro e w1 ⟨rfl, hb1, hw1, hz1⟩
  obtain ⟨b, hb⟩ : ∃ b, (W2 w cap first ra rl rc ca cl cc).heap.size + 1 = b := ⟨_, rfl⟩
  have hbb : w.heap.size + 2 ≤ b := by rw [← hb]; simp
  rw [hb] at hw1 ⊢
  have HA : Hid _ := fun (_ : Unit) => impl_asked recs curs b w w1 HI.out.rin HT.out (below_tr HB0.out hb1) (by omega) hw1
  have HK : Hid (∀ w2, w1.grownBy w2 (some b) → Below (W2 w cap first ra rl rc ca cl cc).heap.size (W2 w cap first ra rl rc ca cl cc) w2) := fun w2 hg => keep_blocks hb1 hg (by simp; omega)
  clear hb1 hw1 hz1 hb
  obtain ⟨r, hr⟩ : ∃ r, moveR cap first recs curs g at' = r := ⟨_, rfl⟩
  obtain ⟨R, hR⟩ : ∃ R, ringRightB cap first recs curs = R := ⟨_, rfl⟩
  have HF : Hid _ := hr
  unfold moveR at HF
  rw [hR] at HA HF
  have HRR : Hid (R = true → (0 ≤ first ∧ first ≤ 1000000) ∧ (∀ c ∈ curs, first ≤ c.2 ∧ c.2 ≤ first + (rl : Int))) := fun h => by
    have h1 := right_first (hR.trans h)
    have h2 := (right_curs (hR.trans h)).1
    rw [HRL.out] at h2
    exact ⟨h1.1, h2⟩
  have HGO : Hid (moveR cap first recs curs g at' = r) := hr
  clear hr hR
  go_wp2_with fail
  refine (HA.out ()).mono ?_
  rintro e w2 ⟨rfl, hA2, hg2⟩
  have HA2 : Hid (Asked w w2 b cap first ra rl rc ca cl cc curs) := hA2
  have HW2 : Hid (Below (W2 w cap first ra rl rc ca cl cc).heap.size (W2 w cap first ra rl rc ca cl cc) w2) := HK.out w2 hg2
  clear hA2 hg2 HA HK
  have hc2 := fun o => HW2.out.cell (p := ⟨w.heap.size + 1, o, none⟩) (by simp)
  have hf2 := fun o => HW2.out.frozen (p := ⟨w.heap.size + 1, o, none⟩) (by simp)
  cases R
  · have hE : Hid (moveR cap first recs curs g at' = RO.ill 1) := HGO.out.trans (HF.out.symm.trans (if_pos rfl))
    clear HF
    go_wp2
    refine bodyPost_ret (v := ringIll 1) (by simp [results, Tryz.results13, go_sem, hc2]) rfl ?_
    rw [hE.out]
    exact ans_ill 1 HA2.out.below _ (by omega) _ _ _ _ _ _ _ _
  · have HRT := HRR.out rfl
    have HFT : Hid (0 ≤ first ∧ first ≤ 1000000) := HRT.1
    have HCR : Hid (∀ c ∈ curs, first ≤ c.2 ∧ c.2 ≤ first + (rl : Int)) := HRT.2
    clear HRT HRR
    obtain ⟨d, l, hW, hK⟩ := HA2.out.work
    have HW : Hid (Work w2 b cap first ra rl rc ca cl cc d 0 l) := hW
    clear hW hK
    have HF2 : Hid ((if findB g curs = false then RO.ill 6 else if at' < (curs.getD (findK g curs) (0, 0)).2 ∨ first + (recs.length : Int) < at' then RO.ill 8 else trimR cap first recs (curs.take (findK g curs) ++ (g, at') :: curs.drop (findK g curs + 1))) = r) := by
      have h := HF.out
      rw [if_neg (by simp)] at h
      exact h
    clear HF
    have HFO : Hid _ := fun (_ : Unit) => impl_follower b d 0 l g curs w2 HW.out (curs_below HI.out.cur.curs HA2.out.below) hcl
    have HKL : Hid (findB g curs = true → findK g curs < cl) := fun h => by rw [← HL.out]; exact find_lt h
    obtain ⟨K, hKe⟩ : ∃ K, findK g curs = K := ⟨_, rfl⟩
    obtain ⟨T, hTe⟩ : ∃ T, findB g curs = T := ⟨_, rfl⟩
    rw [hKe] at HFO HF2 HKL
    rw [hTe] at HFO HF2 HKL
    clear hKe hTe
    go_wp2_with fail
    refine (HFO.out ()).mono ?_
    rintro e w3 ⟨rfl, hb3⟩
    have HB3 : Hid (Below w.heap.size w w3) := below_tr HA2.out.below hb3
    have HW3 : Hid (Below (W2 w cap first ra rl rc ca cl cc).heap.size (W2 w cap first ra rl rc ca cl cc) w3) := below_tr HW2.out hb3
    have HWk3 : Hid (Work w3 b cap first ra rl rc ca cl cc d 0 l) := HW.out.below hb3
    clear hb3 HW hc2 hf2 HFO
    have hc3 := fun o => HW3.out.cell (p := ⟨w.heap.size + 1, o, none⟩) (by simp)
    have hf3 := fun o => HW3.out.frozen (p := ⟨w.heap.size + 1, o, none⟩) (by simp)
    have hd3 := fun o => HW3.out.cell (p := ⟨w.heap.size, o, none⟩) (by simp only [World.size_alloc]; omega)
    cases T
    · have hE : Hid (moveR cap first recs curs g at' = RO.ill 6) := HGO.out.trans (HF2.out.symm.trans (if_pos rfl))
      clear HF2
      go_wp2
      refine bodyPost_ret (v := ringIll 6) (by simp [results, Tryz.results13, go_sem, hc3]) rfl ?_
      rw [hE.out]
      exact ans_ill 6 HB3.out _ (by omega) _ _ _ _ _ _ _ _
    · have hKc := HKL.out rfl
      have hKl : K < curs.length := by rw [HL.out]; exact hKc
      obtain ⟨bc, oc, hca, hg0, ha0⟩ := (curs_below HI.out.cur.curs HB3.out).2 K hKl
      obtain ⟨G, A, hGA⟩ : ∃ G A, curs[K] = (G, A) := ⟨_, _, rfl⟩
      have hgd : curs.getD K (0, 0) = (G, A) := by rw [← hGA]; simp [hKl]
      rw [hGA] at hg0 ha0
      have HF3 : Hid ((if at' < A ∨ first + (rl : Int) < at' then RO.ill 8 else trimR cap first recs (curs.take K ++ (g, at') :: curs.drop (K + 1))) = r) := by
        have h := HF2.out
        rw [if_neg (by simp), hgd, HRL.out] at h
        exact h
      have HA0 : Hid (A = curs[K].2) := by show _ = _; rw [hGA]
      clear HF2 hgd hGA
      subst hca
      have hKi : (K : Int) < (cl : Int) := by omega
      by_cases hlo : at' < A
      · have hE : Hid (moveR cap first recs curs g at' = RO.ill 8) := HGO.out.trans (HF3.out.symm.trans (if_pos (.inl hlo)))
        clear HF3 HA0
        go_wp2
        refine bodyPost_ret (v := ringIll 8) (by simp [results, Tryz.results13, go_sem, hc3]) rfl ?_
        rw [hE.out]
        exact ans_ill 8 HB3.out _ (by omega) _ _ _ _ _ _ _ _
      go_wp2_with fail
      refine (impl_end b d 0 l _ HWk3.out HFT.out hrl).mono ?_
      rintro e w3e ⟨rfl, hb3e⟩
      have HB3e : Hid (Below w.heap.size w w3e) := below_tr HB3.out hb3e
      have HW3e : Hid (Below (W2 w cap first ra rl rc (some ⟨bc, oc, none⟩) cl cc).heap.size (W2 w cap first ra rl rc (some ⟨bc, oc, none⟩) cl cc) w3e) := below_tr HW3.out hb3e
      have HWk3e : Hid (Work w3e b cap first ra rl rc (some ⟨bc, oc, none⟩) cl cc d 0 l) := HWk3.out.below hb3e
      clear hb3e HWk3 HW3 HB3 hc3 hf3 hd3 hg0 ha0
      have hc3 := fun o => HW3e.out.cell (p := ⟨w.heap.size + 1, o, none⟩) (by simp)
      have hf3 := fun o => HW3e.out.frozen (p := ⟨w.heap.size + 1, o, none⟩) (by simp)
      have hd3 := fun o => HW3e.out.cell (p := ⟨w.heap.size, o, none⟩) (by simp only [World.size_alloc]; omega)
      by_cases hhi : first + (rl : Int) < at'
      · have hE : Hid (moveR cap first recs curs g at' = RO.ill 8) := HGO.out.trans (HF3.out.symm.trans (if_pos (.inr hhi)))
        clear HF3 HA0
        go_wp2
        refine bodyPost_ret (v := ringIll 8) (by simp [results, Tryz.results13, go_sem, hc3]) rfl ?_
        rw [hE.out]
        exact ans_ill 8 HB3e.out _ (by omega) _ _ _ _ _ _ _ _
      obtain ⟨cs, hcs⟩ : ∃ cs, curs.take K ++ (g, at') :: curs.drop (K + 1) = cs := ⟨_, rfl⟩
      have HCS : Hid (∀ c ∈ cs, first ≤ c.2 ∧ c.2 ≤ first + (rl : Int)) := fun c hc => by
        rw [← hcs] at hc
        rcases List.mem_append.1 hc with h | h
        · exact HCR.out c (List.mem_of_mem_take h)
        · rcases List.mem_cons.1 h with rfl | h
          · have h2 := HCR.out curs[K] (List.getElem_mem hKl)
            rw [← HA0.out] at h2
            exact ⟨by show first ≤ at'; omega, by show at' ≤ _; omega⟩
          · exact HCR.out c (List.mem_of_mem_drop h)
      have hE : Hid (moveR cap first recs curs g at' = trimR cap first recs cs) := HGO.out.trans (HF3.out.symm.trans (by rw [if_neg (by omega), hcs]))
      have HWO : Hid (∀ w, CurIn w (some ⟨bc, oc, none⟩) cl cc curs → Calls Tryz.prog 55 #[.slice (some ⟨bc, oc, none⟩) cl cc, .int .i64 K] w fun e w' => ∃ a' c', e = .returned (.slice a' (cl - 1) c') ∧ CurIn w' a' (cl - 1) c' (curs.take K ++ curs.drop (K + 1)) ∧ Below w.heap.size w w' ∧ c' ≤ maxLen) := fun w h => impl_withoutM _ cl cc K curs w h hKc HI.out.ccm hcl
      have HMV : Hid ((curs.take K ++ curs.drop (K + 1)).take K ++ (g, at') :: (curs.take K ++ curs.drop (K + 1)).drop K = cs) := by
        show _ = _
        rw [← hcs]
        have hlt : (curs.take K).length = K := by simp; omega
        rw [List.take_append_of_le_length (by omega), List.take_of_length_le (by omega), List.drop_append_of_le_length (by omega), List.drop_eq_nil_of_le (by omega)]
        simp
      have HIN := curLeast_in first (first + (rl : Int)) cs (by omega) HCS.out
      obtain ⟨P, hP⟩ : ∃ P : Nat, curLeast first cs = first + (P : Int) := ⟨(curLeast first cs - first).toNat, by omega⟩
      have hPl : P ≤ rl := by omega
      have HPE : Hid (curLeast first cs = first + (P : Int)) := hP
      clear HF3 hcs HIN hP HA0
      go_wp2_with fail
      refine (HWO.out _ (HI.out.cur.below HB3e.out)).mono ?_
      rintro e w4' ⟨a4', c4', rfl, hci4', hb4', hmx4⟩
      have HMX4 : Hid (c4' ≤ maxLen) := hmx4
      have HC4' : Hid (CurIn w4' a4' (cl - 1) c4' (curs.take K ++ curs.drop (K + 1))) := hci4'
      have HB4' : Hid (Below w.heap.size w w4') := below_tr HB3e.out hb4'
      have HW4' : Hid (Below (W2 w cap first ra rl rc (some ⟨bc, oc, none⟩) cl cc).heap.size (W2 w cap first ra rl rc (some ⟨bc, oc, none⟩) cl cc) w4') := below_tr HW3e.out hb4'
      have HWk4' : Hid (Work w4' b cap first ra rl rc (some ⟨bc, oc, none⟩) cl cc d 0 l) := HWk3e.out.below hb4'
      clear hci4' hb4' HWk3e hmx4
      go_wp2_with fail
      refine (impl_withC a4' (cl - 1) c4' K _ g at' _ HC4'.out (by omega) HMX4.out (by omega)).mono ?_
      rintro e w4 ⟨a4, c4, rfl, hci4, hb4⟩
      have HC4 : Hid (CurIn w4 a4 (cl - 1 + 1) c4 cs) := by rw [HMV.out] at hci4; exact hci4
      have HB4 : Hid (Below w.heap.size w w4) := below_tr HB4'.out hb4
      have HW4 : Hid (Below (W2 w cap first ra rl rc (some ⟨bc, oc, none⟩) cl cc).heap.size (W2 w cap first ra rl rc (some ⟨bc, oc, none⟩) cl cc) w4) := below_tr HW4'.out hb4
      have HWk4 : Hid (Work w4 b cap first ra rl rc (some ⟨bc, oc, none⟩) cl cc d 0 l) := HWk4'.out.below hb4
      clear hci4 hb4 HWk4' HC4'
      go_wp2_with fail
      refine (impl_withCursors b d 0 l a4 (cl - 1 + 1) c4 _ HWk4.out).mono ?_
      rintro e w5 ⟨rfl, hb5⟩
      have HC5 : Hid (CurIn w5 a4 (cl - 1 + 1) c4 cs) := HC4.out.below hb5
      have HB5 : Hid (Below w.heap.size w w5) := below_tr HB4.out hb5
      have HW5 : Hid (Below (W2 w cap first ra rl rc (some ⟨bc, oc, none⟩) cl cc).heap.size (W2 w cap first ra rl rc (some ⟨bc, oc, none⟩) cl cc) w5) := below_tr HW4.out hb5
      clear hb5 HC4 HWk4
      go_wp2_with fail
      refine (impl_atWork _).mono ?_
      rintro e w6 ⟨rfl, hb6, hw6, _⟩
      obtain ⟨b2, hb2⟩ : ∃ b2, w5.heap.size + 1 = b2 := ⟨_, rfl⟩
      rw [hb2] at hw6 ⊢
      have HB6 : Hid (Below w.heap.size w w6) := below_tr HB5.out hb6
      have HOF : Hid (Off b2 a4) := fun x e => by have := HC5.out.lt x e; omega
      have HPS : Hid _ := fun (_ : Unit) => impl_withoutPassed b2 0 0 recs cs P w6 hw6 (.inl rfl) (curs_below HC5.out.curs hb6) HOF.out (by omega) (HI.out.str.below HB6.out) (by omega) HI.out.rcm HFT.out HPE.out hPl
      have HK6 : Hid (∀ w7, w6.grownBy w7 (some b2) → Below w5.heap.size w5 w7) := fun w7 hg => keep_blocks hb6 hg (by omega)
      clear hb6 hw6 hb2
      go_wp2_with fail
      refine (HPS.out ()).mono ?_
      rintro e w7 ⟨rfl, hg7⟩
      have hb7 := HK6.out w7 hg7
      have HC7 : Hid (CurIn w7 a4 (cl - 1 + 1) c4 cs) := HC5.out.below hb7
      have HB7 : Hid (Below w.heap.size w w7) := below_tr HB5.out hb7
      have HW7 : Hid (Below (W2 w cap first ra rl rc (some ⟨bc, oc, none⟩) cl cc).heap.size (W2 w cap first ra rl rc (some ⟨bc, oc, none⟩) cl cc) w7) := below_tr HW5.out hb7
      have HS7 : Hid (StrIn w7 (cutAt ra 1 P rl) (rl - P) (rl - P) (recs.drop P)) := cut_strIn (HI.out.str.below HB7.out) hPl
      have hz7 : w.heap.size + 1 < w7.heap.size := by have h := HW7.out.size; simp at h; omega
      clear hg7 hb7 HPS HK6
      obtain ⟨ra', hra'⟩ : ∃ ra', cutAt ra 1 P rl = ra' := ⟨_, rfl⟩
      rw [hra'] at HS7 ⊢
      clear hra'
      go_wp2_with fail
      refine (impl_copyRing cap (first + (P : Int)) ra' (rl - P) (rl - P) a4 (cl - 1 + 1) c4 (recs.drop P) cs _ HS7.out HC7.out (fun s hs => HI.out.sz s (List.mem_of_mem_drop hs)) (by omega) (by omega)).mono ?_
      rintro e w8 ⟨a, q, c, p, rfl, ho8, hb8⟩
      have HB8 : Hid (Below w.heap.size w w8) := below_tr HB7.out hb8
      have HW8 : Hid (Below (W2 w cap first ra rl rc (some ⟨bc, oc, none⟩) cl cc).heap.size (W2 w cap first ra rl rc (some ⟨bc, oc, none⟩) cl cc) w8) := below_tr HW7.out hb8
      have HO8 : Hid (OwnRing w8 w7.heap.size a (rl - P) q c (cl - 1 + 1) p ((recs.drop P).map Value.string) (curCells cs)) := ho8
      clear hb8 ho8 hc3 hf3 hd3
      have hc8 := fun o => HW8.out.cell (p := ⟨w.heap.size + 1, o, none⟩) (by simp)
      have hf8 := fun o => HW8.out.frozen (p := ⟨w.heap.size + 1, o, none⟩) (by simp)
      go_wp2
      refine bodyPost_ret (v := ringOutV cap (first + (P : Int)) a (rl - P) q c (cl - 1 + 1) p 0 0 ⟨#[]⟩ 0) (by simp [results, Tryz.results13, go_sem, hc8]) rfl ?_
      rw [hE.out]
      exact ans_trim HPE.out HO8.out HB8.out (by omega) hz7 _ _ _ _ _ _ _ _
end Go.Proofs.YtgjomkgbpfklkaaGreatDoor
