/- The law of RingAt. -/
import Derived.Test.YtopbfjdjlgecpaaGreatDoorSpecAt2
import Derived.Test.YtopbfjdjlgecpaaGreatDoorRingAtI
import Derived.Test.YtopbfjdjlgecpaaGreatDoorLawRingOut0
import Derived.Deep.DeepCutAuto
namespace Go.Proofs.YtopbfjdjlgecpaaGreatDoor
open Go.RowKit
theorem at_len (cap first : Int) (recs : List ByteArray) (curs : List (Int × Int)) (at' : Int) : (atR cap first recs curs at').recs.length ≤ recs.length ∧ (atR cap first recs curs at').curs.length ≤ curs.length + 1 := by
  unfold atR
  split
  · simp [RO.ill]
  · split
    · simp [RO.ill]
    · simp
set_option maxRecDepth 100000 in
set_option maxHeartbeats 2000000 in
theorem law_ringAt (cap first : Int) (ra : Option Addr) (rl rc : Nat) (ca : Option Addr) (cl cc : Nat) (recs : List ByteArray) (curs : List (Int × Int)) (at' : Int) (w : World) (hi : LIn w ra rl ca cl recs curs) (_ha : (Lit.int .i64 at').wf = true) (hT : utabs w) :
    Calls Tryz.prog 5 #[ringV cap first ra rl rc ca cl cc, .int .i64 at'] w fun e w' => e = .returned (.bool true) ∧ Below w.heap.size w w' := by
  have HI : Hid (LIn w ra rl ca cl recs curs) := hi
  have HT : Hid (utabs w) := hT
  have HZ : Hid _ := fun w (hi : LIn w ra rl ca cl recs curs) => law_szRing cap first ra rl rc ca cl cc recs w hi.strs hi.rle hi.sz hi.cle
  have hB0 : Hid (Below w.heap.size w (w.alloc (lringObj cap first ra rl rc ca cl cc))) := below_new _ _
  have hL0 : Hid (LIn (w.alloc (lringObj cap first ra rl rc ca cl cc)) ra rl ca cl recs curs) := ⟨strs_below hi.strs hB0.out, curs_below hi.curs hB0.out, hi.sz, hi.rle, hi.cle⟩
  have HRL : Hid (recs.length = rl) := hi.strs.1
  have HCL : Hid (curs.length = cl) := hi.curs.1
  clear hi hT
  by_cases hs : rl + strSum recs + cl ≤ 1048576
  · rw [show ringLeft 1048576 rl (strSum recs) cl = ((1048576 - (rl + strSum recs + cl) : Nat) : Int) by rw [ringLeft, if_pos hs]] at HZ
    have hrl : rl ≤ 1048576 := by omega
    have hcl : cl ≤ 1048576 := by omega
    have HSZ : Hid (∀ s ∈ recs, s.size ≤ 1048576) := fun s h => by have := strSum_mem recs s h; omega
    obtain ⟨x, hx⟩ : ∃ x, 1048576 - (rl + strSum recs + cl) = x := ⟨_, rfl⟩
    rw [hx] at HZ
    clear hx hs
    have HTO : Hid (∀ w, Strs w ra rl recs → Curs w ca cl curs → Calls Tryz.prog 34 #[ringV cap first ra rl rc ca cl cc] w fun e w' => ∃ a c, e = .returned (ringV cap first (some ⟨a, 0, none⟩) rl rl (some ⟨c, 0, none⟩) cl cl) ∧ OwnRing w' w.heap.size (some ⟨a, 0, none⟩) rl rl (some ⟨c, 0, none⟩) cl cl (recs.map Value.string) (curCells curs) ∧ Below w.heap.size w w') := fun w h1 h2 => law_toRing cap first ra rl rc ca cl cc recs curs w h1 h2 hrl hcl
    have hlen := at_len cap first recs curs at'
    rw [HRL.out, HCL.out] at hlen
    obtain ⟨r, hr⟩ : ∃ r, atR cap first recs curs at' = r := ⟨_, rfl⟩
    have HSP0 : Hid (∀ w a c, RFit w (some ⟨a, 0, none⟩) rl rl (some ⟨c, 0, none⟩) cl cl recs curs → Calls Tryz.prog 18 #[ringV cap first (some ⟨a, 0, none⟩) rl rl (some ⟨c, 0, none⟩) cl cl, .int .i64 at'] w fun e w' => Answers w w' e r) := fun w a c h => by rw [← hr]; exact spec_ringAt recs curs at' w h
    have HIM0 : Hid (∀ w a c, RFit w (some ⟨a, 0, none⟩) rl rl (some ⟨c, 0, none⟩) cl cl recs curs → utabs w → Calls Tryz.prog 17 #[ringV cap first (some ⟨a, 0, none⟩) rl rl (some ⟨c, 0, none⟩) cl cl, .int .i64 at'] w fun e w' => Answers w w' e r) := fun w a c h hT => by rw [← hr]; exact impl_ringAt recs curs at' w h hT
    rw [hr] at hlen
    clear hr
    obtain ⟨C, F, rs, cs, kk, tt, dd, cd⟩ := r
    unfold Answers at HSP0 HIM0
    obtain ⟨n, hn⟩ : ∃ n, rs.length = n := ⟨_, rfl⟩
    obtain ⟨m, hm⟩ : ∃ m, cs.length = m := ⟨_, rfl⟩
    obtain ⟨xs, hxs⟩ : ∃ xs, rs.map Value.string = xs := ⟨_, rfl⟩
    obtain ⟨ys, hys⟩ : ∃ ys, curCells cs = ys := ⟨_, rfl⟩
    simp only [hn, hm, hxs, hys] at HSP0 HIM0 hlen
    have hnl : n ≤ 2000000 := by omega
    have hml : m ≤ 2000000 := by omega
    have HSP : Hid (∀ w a c, RFit w (some ⟨a, 0, none⟩) rl rl (some ⟨c, 0, none⟩) cl cl recs curs → Calls Tryz.prog 18 #[ringV cap first (some ⟨a, 0, none⟩) rl rl (some ⟨c, 0, none⟩) cl cl, .int .i64 at'] w fun e w' => ∃ a q b p, e = .returned (ringOutV C F a n q b m p kk tt dd cd) ∧ OwnRing w' w.heap.size a n q b m p xs ys ∧ Below w.heap.size w w') := HSP0.out
    have HIM : Hid (∀ w a c, RFit w (some ⟨a, 0, none⟩) rl rl (some ⟨c, 0, none⟩) cl cl recs curs → utabs w → Calls Tryz.prog 17 #[ringV cap first (some ⟨a, 0, none⟩) rl rl (some ⟨c, 0, none⟩) cl cl, .int .i64 at'] w fun e w' => ∃ a q b p, e = .returned (ringOutV C F a n q b m p kk tt dd cd) ∧ OwnRing w' w.heap.size a n q b m p xs ys ∧ Below w.heap.size w w') := HIM0.out
    have HXS : Hid (rs.map Value.string = xs) := hxs
    have HYS : Hid (curCells cs = ys) := hys
    clear hn hm hxs hys hlen HSP0 HIM0
    have HEQ : Hid (∀ (a q c p a' q' c' p' : _) (b b' : Nat) (u : World), OwnRing u b a n q c m p xs ys → OwnRing u b' a' n q' c' m p' xs ys → Calls Tryz.prog 36 #[ringOutV C F a n q c m p kk tt dd cd, ringOutV C F a' n q' c' m p' kk tt dd cd] u fun e w' => e = .returned (.bool true) ∧ Below u.heap.size u w') := fun a q c p a' q' c' p' b b' u h h' => by
      rw [← HXS.out, ← HYS.out] at h h'
      exact law_eqRingOut C F a n q c m p a' q' c' p' kk tt dd cd rs cs u (own_strs h.1) (own_strs h'.1) (own_curs h.2) (own_curs h'.2) (by omega) (by omega)
    clear HXS HYS
    go_enter Tryz.func5, Tryz.ntmps5
    go_wp2_with fail
    refine (HZ.out _ hL0.out).mono ?_
    rintro e w1 ⟨rfl, hb1⟩
    have hA1 : Hid (w1.heap[w.heap.size]? = some (lringObj cap first ra rl rc ca cl cc)) := blk (heap_alloc_new _ _) hb1
    have hB1 : Hid (Below w.heap.size w w1) := below_tr hB0.out hb1
    have hcA := fun o => cell_of_block0 hA1.out o
    clear hb1
    go_wp2_with fail
    refine (HTO.out _ (strs_below HI.out.strs hB1.out) (curs_below HI.out.curs hB1.out)).mono ?_
    rintro e w2 ⟨a2, c2, rfl, ho2, hb2⟩
    have hA2 : Hid (w2.heap[w.heap.size]? = some (lringObj cap first ra rl rc ca cl cc)) := blk hA1.out hb2
    have hB2 : Hid (Below w.heap.size w w2) := below_tr hB1.out hb2
    have hO2 : Hid (RFit w2 (some ⟨a2, 0, none⟩) rl rl (some ⟨c2, 0, none⟩) cl cl recs curs) := own_rfit ho2 HSZ.out hrl hcl
    clear hb2 ho2 hcA
    go_wp2_with fail
    refine (HSP.out _ a2 c2 hO2.out).mono ?_
    rintro e w3 ⟨a3, q3, c3, p3, rfl, ho3, hb3⟩
    have HA3 : Hid (KA w (w3.alloc (outObj C F a3 n q3 c3 m p3 kk tt dd cd)) (lringObj cap first ra rl rc ca cl cc) (outObj C F a3 n q3 c3 m p3 kk tt dd cd) w3.heap.size a3 n q3 c3 m p3 xs ys) := KA.mk0 (blk hA2.out hb3) (below_tr hB2.out hb3) ho3 hB2.out.size
    clear hb3 ho3 hA1 hA2 hB1 hB2 hO2
    have hcA := fun o => cell_of_block0 HA3.out.ba o
    have hcB := fun o => cell_of_block0 HA3.out.bb o
    go_wp2_with fail
    refine (HTO.out _ (strs_below HI.out.strs HA3.out.blo) (curs_below HI.out.curs HA3.out.blo)).mono ?_
    rintro e w4 ⟨a4, c4, rfl, ho4, hb4⟩
    have HA4 : Hid (KA w (w4.alloc (ringObj cap first (some ⟨a4, 0, none⟩) rl rl (some ⟨c4, 0, none⟩) cl cl)) (lringObj cap first ra rl rc ca cl cc) (outObj C F a3 n q3 c3 m p3 kk tt dd cd) w3.heap.size a3 n q3 c3 m p3 xs ys) := (HA3.out.below hb4).below (below_new _ _)
    have HX4 : Hid (KR (w4.alloc (ringObj cap first (some ⟨a4, 0, none⟩) rl rl (some ⟨c4, 0, none⟩) cl cl)) w3.heap.size w4.heap.size (ringObj cap first (some ⟨a4, 0, none⟩) rl rl (some ⟨c4, 0, none⟩) cl cl) (some ⟨a4, 0, none⟩) rl rl (some ⟨c4, 0, none⟩) cl cl (recs.map Value.string) (curCells curs)) := KR.mk0 ho4 hb4
    have HWX : Hid (w3.heap.size ≤ w4.heap.size) := Nat.le_of_lt HX4.out.lt
    have hO4 : Hid (RFit (w4.alloc (ringObj cap first (some ⟨a4, 0, none⟩) rl rl (some ⟨c4, 0, none⟩) cl cl)) (some ⟨a4, 0, none⟩) rl rl (some ⟨c4, 0, none⟩) cl cl recs curs) := own_rfit HX4.out.own HSZ.out hrl hcl
    clear hb4 ho4 HA3 hcA hcB
    have hcA := fun o => cell_of_block0 HA4.out.ba o
    have hcB := fun o => cell_of_block0 HA4.out.bb o
    have hcX := fun o => cell_of_block0 HX4.out.bo o
    go_wp2_with fail
    refine (HIM.out _ a4 c4 hO4.out (utabs_below HT.out HA4.out.blo)).mono ?_
    rintro e w5 ⟨a5, q5, c5, p5, rfl, ho5, hb5⟩
    have HA5 : Hid (KA w (w5.alloc (outObj C F a5 n q5 c5 m p5 kk tt dd cd)) (lringObj cap first ra rl rc ca cl cc) (outObj C F a3 n q3 c3 m p3 kk tt dd cd) w3.heap.size a3 n q3 c3 m p3 xs ys) := (HA4.out.below hb5).below (below_new _ _)
    have HX5 : Hid (KR (w5.alloc (outObj C F a5 n q5 c5 m p5 kk tt dd cd)) w3.heap.size w4.heap.size (ringObj cap first (some ⟨a4, 0, none⟩) rl rl (some ⟨c4, 0, none⟩) cl cl) (some ⟨a4, 0, none⟩) rl rl (some ⟨c4, 0, none⟩) cl cl (recs.map Value.string) (curCells curs)) := (HX4.out.below hb5).below (below_new _ _)
    have HG5 : Hid (KR (w5.alloc (outObj C F a5 n q5 c5 m p5 kk tt dd cd)) w4.heap.size w5.heap.size (outObj C F a5 n q5 c5 m p5 kk tt dd cd) a5 n q5 c5 m p5 xs ys) := KR.mk0 ho5 hb5
    clear hb5 ho5 HA4 HX4 hO4 hcA hcB hcX
    have hcA := fun o => cell_of_block0 HA5.out.ba o
    have hcB := fun o => cell_of_block0 HA5.out.bb o
    have hcX := fun o => cell_of_block0 HX5.out.bo o
    have hcG := fun o => cell_of_block0 HG5.out.bo o
    go_wp2_with fail
    refine (HEQ.out _ _ _ _ _ _ _ _ _ _ _ HG5.out.own HA5.out.own).mono ?_
    rintro e w6 ⟨rfl, hb6⟩
    have HA6 : Hid (KA w w6 (lringObj cap first ra rl rc ca cl cc) (outObj C F a3 n q3 c3 m p3 kk tt dd cd) w3.heap.size a3 n q3 c3 m p3 xs ys) := HA5.out.below hb6
    have HX6 : Hid (KR w6 w3.heap.size w4.heap.size (ringObj cap first (some ⟨a4, 0, none⟩) rl rl (some ⟨c4, 0, none⟩) cl cl) (some ⟨a4, 0, none⟩) rl rl (some ⟨c4, 0, none⟩) cl cl (recs.map Value.string) (curCells curs)) := HX5.out.below hb6
    have HG6 : Hid (KR w6 w4.heap.size w5.heap.size (outObj C F a5 n q5 c5 m p5 kk tt dd cd) a5 n q5 c5 m p5 xs ys) := HG5.out.below hb6
    clear hb6 HA5 HX5 HG5 hcA hcB hcX hcG
    have hcA := fun o => cell_of_block0 HA6.out.ba o
    have hcB := fun o => cell_of_block0 HA6.out.bb o
    have hcX := fun o => cell_of_block0 HX6.out.bo o
    have hcG := fun o => cell_of_block0 HG6.out.bo o
    go_upto_region 10 with fail
    go_cut [35] (fun t wc => t = .bool false ∧ Hid (KA w wc (lringObj cap first ra rl rc ca cl cc) (outObj C F a3 n q3 c3 m p3 kk tt dd cd) w3.heap.size a3 n q3 c3 m p3 xs ys) ∧ Hid (KR wc w3.heap.size w4.heap.size (ringObj cap first (some ⟨a4, 0, none⟩) rl rl (some ⟨c4, 0, none⟩) cl cl) (some ⟨a4, 0, none⟩) rl rl (some ⟨c4, 0, none⟩) cl cl (recs.map Value.string) (curCells curs)) ∧ Hid (KR wc w4.heap.size w5.heap.size (outObj C F a5 n q5 c5 m p5 kk tt dd cd) a5 n q5 c5 m p5 xs ys))
    case first =>
      go_region_with (first
        | (go_at_call 34; refine (HTO.out _ (strs_below HI.out.strs HA6.out.blo.drew) (curs_below HI.out.curs HA6.out.blo.drew)).mono ?_; rintro e w7 ⟨a7, c7, rfl, ho7, hb7⟩; have HA7 : Hid (KA w w7 (lringObj cap first ra rl rc ca cl cc) (outObj C F a3 n q3 c3 m p3 kk tt dd cd) w3.heap.size a3 n q3 c3 m p3 xs ys) := HA6.out.below (below_tr ((Below.refl _ _).drew) hb7); have HX7 : Hid (KR w7 w3.heap.size w4.heap.size (ringObj cap first (some ⟨a4, 0, none⟩) rl rl (some ⟨c4, 0, none⟩) cl cl) (some ⟨a4, 0, none⟩) rl rl (some ⟨c4, 0, none⟩) cl cl (recs.map Value.string) (curCells curs)) := HX6.out.below (below_tr ((Below.refl _ _).drew) hb7); have HG7 : Hid (KR w7 w4.heap.size w5.heap.size (outObj C F a5 n q5 c5 m p5 kk tt dd cd) a5 n q5 c5 m p5 xs ys) := HG6.out.below (below_tr ((Below.refl _ _).drew) hb7); have hO7 : Hid (RIn w7 (some ⟨a7, 0, none⟩) rl rl (some ⟨c7, 0, none⟩) cl cl recs curs) := own_rin ho7 HSZ.out hrl hcl; have hcA7 := fun o => cell_of_block0 HA7.out.ba o; have hcX7 := fun o => cell_of_block0 HX7.out.bo o; clear hb7 ho7)
        | (go_at_call 37; refine (law_eqRing cap first (some ⟨a4, 0, none⟩) rl rl (some ⟨c4, 0, none⟩) cl cl (some ⟨a7, 0, none⟩) rl (some ⟨c7, 0, none⟩) cl recs curs _ (own_strs HX7.out.own.1) hO7.out.strs (own_curs HX7.out.own.2) hO7.out.curs (by omega) (by omega)).mono ?_; rintro e w8 ⟨rfl, hb8⟩; have HA8 : Hid (KA w w8 (lringObj cap first ra rl rc ca cl cc) (outObj C F a3 n q3 c3 m p3 kk tt dd cd) w3.heap.size a3 n q3 c3 m p3 xs ys) := HA7.out.below hb8; have HX8 : Hid (KR w8 w3.heap.size w4.heap.size (ringObj cap first (some ⟨a4, 0, none⟩) rl rl (some ⟨c4, 0, none⟩) cl cl) (some ⟨a4, 0, none⟩) rl rl (some ⟨c4, 0, none⟩) cl cl (recs.map Value.string) (curCells curs)) := HX7.out.below hb8; have HG8 : Hid (KR w8 w4.heap.size w5.heap.size (outObj C F a5 n q5 c5 m p5 kk tt dd cd) a5 n q5 c5 m p5 xs ys) := HG7.out.below hb8; clear hb8))
      all_goals (go_wp2_with fail; go_meet; exact ⟨rfl, HA8, HX8, HG8⟩)
    case rest =>
    obtain ⟨rfl, HA8, HX8, HG8⟩ := hcut
    clear HA6 HX6 HG6 hcA hcB hcX hcG
    have hcA := fun o => cell_of_block0 HA8.out.ba o
    have hcB := fun o => cell_of_block0 HA8.out.bb o
    have hcX := fun o => cell_of_block0 HX8.out.bo o
    have hcG := fun o => cell_of_block0 HG8.out.bo o
    go_wp2_with fail
    refine (law_markRing cap first (some ⟨a4, 0, none⟩) rl rl (some ⟨c4, 0, none⟩) cl cl _ _ _ 1 _ HX8.out.own (by omega) (by omega)).mono ?_
    rintro e w9 ⟨rfl, _, hg9⟩
    have HA9 : Hid (KA w w9 (lringObj cap first ra rl rc ca cl cc) (outObj C F a3 n q3 c3 m p3 kk tt dd cd) w3.heap.size a3 n q3 c3 m p3 xs ys) := HA8.out.mark HX8.out (Nat.le_refl _) hg9
    have HG9 : Hid (KR w9 w4.heap.size w5.heap.size (outObj C F a5 n q5 c5 m p5 kk tt dd cd) a5 n q5 c5 m p5 xs ys) := HG8.out.mark2 HX8.out (Nat.le_refl _) hg9
    clear hg9 HA8 HX8 HG8 hcA hcB hcX hcG
    have hcA := fun o => cell_of_block0 HA9.out.ba o
    have hcB := fun o => cell_of_block0 HA9.out.bb o
    have hcG := fun o => cell_of_block0 HG9.out.bo o
    go_wp2_with fail
    refine (HEQ.out _ _ _ _ _ _ _ _ _ _ _ HG9.out.own HA9.out.own).mono ?_
    rintro e w10 ⟨rfl, hb10⟩
    have HA10 : Hid (KA w w10 (lringObj cap first ra rl rc ca cl cc) (outObj C F a3 n q3 c3 m p3 kk tt dd cd) w3.heap.size a3 n q3 c3 m p3 xs ys) := HA9.out.below hb10
    have HG10 : Hid (KR w10 w4.heap.size w5.heap.size (outObj C F a5 n q5 c5 m p5 kk tt dd cd) a5 n q5 c5 m p5 xs ys) := HG9.out.below hb10
    clear hb10 HA9 HG9 hcA hcB hcG
    have hcA := fun o => cell_of_block0 HA10.out.ba o
    have hcB := fun o => cell_of_block0 HA10.out.bb o
    have hcG := fun o => cell_of_block0 HG10.out.bo o
    go_wp2_with fail
    refine (law_markRingOut C F a5 n q5 c5 m p5 kk tt dd cd _ _ _ 1 _ HG10.out.own (by omega) (by omega)).mono ?_
    rintro e w11 ⟨rfl, ho11, hg11⟩
    have HA11 : Hid (KA w w11 (lringObj cap first ra rl rc ca cl cc) (outObj C F a3 n q3 c3 m p3 kk tt dd cd) w3.heap.size a3 n q3 c3 m p3 xs ys) := HA10.out.mark HG10.out HWX.out hg11
    have HG11 : Hid (KR w11 w4.heap.size w5.heap.size (outObj C F a5 n q5 c5 m p5 kk tt dd cd) a5 n q5 c5 m p5 (mStr 1 xs n) (mCur (1 + n) ys (m * 2))) := HG10.out.mark ho11 hg11
    clear hg11 ho11 HA10 HG10 hcA hcB hcG
    have hcA := fun o => cell_of_block0 HA11.out.ba o
    have hcB := fun o => cell_of_block0 HA11.out.bb o
    have hcG := fun o => cell_of_block0 HG11.out.bo o
    go_wp2_with fail
    refine (law_heldRingOut C F a5 n q5 c5 m p5 kk tt dd cd _ _ _ 1 _ HG11.out.own (by omega) (by omega)).mono ?_
    rintro e w12 ⟨rfl, hb12⟩
    have HA12 : Hid (KA w w12 (lringObj cap first ra rl rc ca cl cc) (outObj C F a3 n q3 c3 m p3 kk tt dd cd) w3.heap.size a3 n q3 c3 m p3 xs ys) := HA11.out.below hb12
    have HG12 : Hid (KR w12 w4.heap.size w5.heap.size (outObj C F a5 n q5 c5 m p5 kk tt dd cd) a5 n q5 c5 m p5 (mStr 1 xs n) (mCur (1 + n) ys (m * 2))) := HG11.out.below hb12
    clear hb12 HA11 HG11 hcA hcB hcG
    have hcA := fun o => cell_of_block0 HA12.out.ba o
    have hcB := fun o => cell_of_block0 HA12.out.bb o
    have hcG := fun o => cell_of_block0 HG12.out.bo o
    have hk0 : ¬ (((1 + n + m * 2 : Nat) : Int) < 0) := by omega
    go_wp2_with fail
    refine (HTO.out _ (strs_below HI.out.strs HA12.out.blo) (curs_below HI.out.curs HA12.out.blo)).mono ?_
    rintro e w13 ⟨a13, c13, rfl, ho13, hb13⟩
    have HA13 : Hid (KA w w13 (lringObj cap first ra rl rc ca cl cc) (outObj C F a3 n q3 c3 m p3 kk tt dd cd) w3.heap.size a3 n q3 c3 m p3 xs ys) := HA12.out.below hb13
    have HG13 : Hid (KR w13 w4.heap.size w5.heap.size (outObj C F a5 n q5 c5 m p5 kk tt dd cd) a5 n q5 c5 m p5 (mStr 1 xs n) (mCur (1 + n) ys (m * 2))) := HG12.out.below hb13
    have hO13 : Hid (RFit w13 (some ⟨a13, 0, none⟩) rl rl (some ⟨c13, 0, none⟩) cl cl recs curs) := own_rfit ho13 HSZ.out hrl hcl
    clear hb13 ho13 HA12 HG12 hcA hcB hcG
    have hcA := fun o => cell_of_block0 HA13.out.ba o
    have hcB := fun o => cell_of_block0 HA13.out.bb o
    have hcG := fun o => cell_of_block0 HG13.out.bo o
    go_wp2_with fail
    refine (HIM.out _ a13 c13 hO13.out (utabs_below HT.out HA13.out.blo)).mono ?_
    rintro e w14 ⟨a14, q14, c14, p14, rfl, ho14, hb14⟩
    have HA14 : Hid (KA w (w14.alloc (outObj C F a14 n q14 c14 m p14 kk tt dd cd)) (lringObj cap first ra rl rc ca cl cc) (outObj C F a3 n q3 c3 m p3 kk tt dd cd) w3.heap.size a3 n q3 c3 m p3 xs ys) := (HA13.out.below hb14).below (below_new _ _)
    have HG14 : Hid (KR (w14.alloc (outObj C F a14 n q14 c14 m p14 kk tt dd cd)) w4.heap.size w5.heap.size (outObj C F a5 n q5 c5 m p5 kk tt dd cd) a5 n q5 c5 m p5 (mStr 1 xs n) (mCur (1 + n) ys (m * 2))) := (HG13.out.below hb14).below (below_new _ _)
    have HO14 : Hid (OwnRing (w14.alloc (outObj C F a14 n q14 c14 m p14 kk tt dd cd)) w13.heap.size a14 n q14 c14 m p14 xs ys) := ho14.below (below_new _ _)
    clear hb14 ho14 HA13 HG13 hcA hcB hcG
    have hcA := fun o => cell_of_block0 HA14.out.ba o
    have hcB := fun o => cell_of_block0 HA14.out.bb o
    have hcG := fun o => cell_of_block0 HG14.out.bo o
    go_wp2_with fail
    refine (HEQ.out _ _ _ _ _ _ _ _ _ _ _ HO14.out HA14.out.own).mono ?_
    rintro e w15 ⟨rfl, hb15⟩
    have HA15 : Hid (KA w w15 (lringObj cap first ra rl rc ca cl cc) (outObj C F a3 n q3 c3 m p3 kk tt dd cd) w3.heap.size a3 n q3 c3 m p3 xs ys) := HA14.out.below hb15
    have HG15 : Hid (KR w15 w4.heap.size w5.heap.size (outObj C F a5 n q5 c5 m p5 kk tt dd cd) a5 n q5 c5 m p5 (mStr 1 xs n) (mCur (1 + n) ys (m * 2))) := HG14.out.below hb15
    clear hb15 HA14 HG14 HO14 hcA hcB hcG
    have hcA := fun o => cell_of_block0 HA15.out.ba o
    have hcB := fun o => cell_of_block0 HA15.out.bb o
    have hcG := fun o => cell_of_block0 HG15.out.bo o
    go_wp2_with fail
    refine (law_heldRingOut C F a5 n q5 c5 m p5 kk tt dd cd _ _ _ 1 _ HG15.out.own (by omega) (by omega)).mono ?_
    rintro e w16 ⟨rfl, hb16⟩
    have HB16 : Hid (Below w.heap.size w w16) := below_tr HA15.out.blo hb16
    clear hb16 HA15 HG15 hcA hcB hcG
    go_wp2
    go_ret
    exact ⟨rfl, HB16.out⟩
  · rw [show ringLeft 1048576 rl (strSum recs) cl = -1 by rw [ringLeft, if_neg hs]] at HZ
    clear hs
    go_enter Tryz.func5, Tryz.ntmps5
    go_wp2_with fail
    refine (HZ.out _ hL0.out).mono ?_
    rintro e w1 ⟨rfl, hb1⟩
    have hB1 : Hid (Below w.heap.size w w1) := below_tr hB0.out hb1
    clear hb1
    go_wp2
    go_ret
    exact ⟨rfl, hB1.out⟩
end Go.Proofs.YtopbfjdjlgecpaaGreatDoor
