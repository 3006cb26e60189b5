/- The law of RingPut. -/
import Derived.Test.YtopbfjdjlgecpaaGreatDoorSpecPut
import Derived.Test.YtopbfjdjlgecpaaGreatDoorRingPut2
import Derived.Test.YtopbfjdjlgecpaaGreatDoorLawPut0
import Derived.Deep.DeepCutAuto
import Derived.Deep.DrawnRows
namespace Go.Proofs.YtopbfjdjlgecpaaGreatDoor
open Go.RowKit
attribute [local go_sem ↓] Go.wp_at_zero Go.wp_at_succ
theorem hidLt {a b : Nat} (h : a < b) : Hid (a < b) := h
theorem boxLtOf {W v : World} (_ : Below (W.alloc outObj0).heap.size (W.alloc outObj0) v) : W.heap.size < (W.alloc outObj0).heap.size := boxLtNew W
theorem put_len (cap first : Int) (recs : List ByteArray) (curs : List (Int × Int)) (k t : Int) (d : ByteArray) : (putR cap first recs curs k t d).recs.length ≤ recs.length + 1 ∧ (putR cap first recs curs k t d).curs.length ≤ curs.length := by
  unfold putR
  split
  · simp [RO.ill]
  · split
    · simp [RO.ill]
    · simp [RO.ring]
theorem law_szRecL (k t : Int) (d : ByteArray) (x : Nat) (w : World) (hm : d.size ≤ maxLen) (hx : x ≤ 1048576) :
    Calls Tryz.prog 33 #[recV k t d, .int .i64 x] w fun e w' => e = .returned (.int .i64 (if d.size ≤ x then (x : Int) - (d.size : Int) else -1)) ∧ Below w.heap.size w w' := by
  unfold maxLen at hm
  by_cases h : d.size ≤ x
  · rw [if_pos h]
    go_enter Tryz.func33, Tryz.ntmps33
    go_wp2
    go_ret
    exact ⟨rfl, (Below.refl _ _).alloc (Nat.le_refl _) _⟩
  · rw [if_neg h]
    go_enter Tryz.func33, Tryz.ntmps33
    go_wp2
    go_ret
    exact ⟨rfl, (Below.refl _ _).alloc (Nat.le_refl _) _⟩
set_option maxRecDepth 100000 in
set_option maxHeartbeats 60000000 in
theorem law_ringPut (cap first : Int) (ra : Option Addr) (rl rc : Nat) (ca : Option Addr) (cl cc : Nat) (recs : List ByteArray) (curs : List (Int × Int)) (k t : Int) (d : ByteArray) (w : World) (hi : LIn w ra rl ca cl recs curs) (hd : d.size ≤ maxLen) (hT : utabs w) :
    Calls Tryz.prog 4 #[ringV cap first ra rl rc ca cl cc, recV k t d] w fun e w' => e = .returned (.bool true) ∧ Below w.heap.size w w' := by
  have HI : Hid (LIn w ra rl ca cl recs curs) := hi
  have HT : Hid (utabs w) := hT
  have HZ : Hid _ := fun w (hi : LIn w ra rl ca cl recs curs) => law_szRing cap first ra rl rc ca cl cc recs w hi.strs hi.rle hi.sz hi.cle
  have hB0 : Hid (Below w.heap.size w ((w.alloc (lringObj cap first ra rl rc ca cl cc)).alloc (lrecObj k t d))) := ((Below.refl _ _).alloc (Nat.le_refl _) _).alloc (by simp) _
  have hA0 : Hid (((w.alloc (lringObj cap first ra rl rc ca cl cc)).alloc (lrecObj k t d)).heap[w.heap.size]? = some (lringObj cap first ra rl rc ca cl cc)) := (Below.heap_alloc _ _ _ (by simp)).trans (heap_alloc_new _ _)
  have hR0 : Hid (((w.alloc (lringObj cap first ra rl rc ca cl cc)).alloc (lrecObj k t d)).heap[w.heap.size + 1]? = some (lrecObj k t d)) := by
    have h := heap_alloc_new (w.alloc (lringObj cap first ra rl rc ca cl cc)) (lrecObj k t d)
    rwa [World.size_alloc] at h
  have hL0 : Hid (LIn ((w.alloc (lringObj cap first ra rl rc ca cl cc)).alloc (lrecObj k t d)) ra rl ca cl recs curs) := ⟨strs_below hi.strs hB0.out, curs_below hi.curs hB0.out, hi.sz, hi.rle, hi.cle⟩
  have HRL : Hid (recs.length = rl) := hi.strs.1
  have HCL : Hid (curs.length = cl) := hi.curs.1
  clear hi hT
  by_cases hs : rl + strSum recs + cl ≤ 1048576
  · rw [show ringLeft 1048576 rl (strSum recs) cl = ((1048576 - (rl + strSum recs + cl) : Nat) : Int) by rw [ringLeft, if_pos hs]] at HZ
    have hrl : rl ≤ 1048576 := by omega
    have hcl : cl ≤ 1048576 := by omega
    have HSZ : Hid (∀ s ∈ recs, s.size ≤ 1048576) := fun s h => by have := strSum_mem recs s h; omega
    obtain ⟨x, hx⟩ : ∃ x, 1048576 - (rl + strSum recs + cl) = x := ⟨_, rfl⟩
    rw [hx] at HZ
    have hxm : x ≤ 1048576 := by omega
    clear hx hs
    have HZR : Hid _ := fun w => law_szRecL k t d x w hd hxm
    go_enter Tryz.func4, Tryz.ntmps4
    go_wp2_with fail
    refine (HZ.out _ hL0.out).mono ?_
    rintro e w1 ⟨rfl, hb1⟩
    have hA1 : Hid (w1.heap[w.heap.size]? = some (lringObj cap first ra rl rc ca cl cc)) := blk hA0.out hb1
    have hR1 : Hid (w1.heap[w.heap.size + 1]? = some (lrecObj k t d)) := blk hR0.out hb1
    have hB1 : Hid (Below w.heap.size w w1) := below_tr hB0.out hb1
    have hcA := fun o => cell_of_block0 hA1.out o
    have hcR := fun o => cell_of_block0 hR1.out o
    clear hb1 hA0 hR0 hB0 hL0 HZ
    by_cases hdx : d.size ≤ x
    case neg =>
      rw [if_neg hdx] at HZR
      clear hdx
      go_wp2_with fail
      refine (HZR.out _).mono ?_
      rintro e w2 ⟨rfl, hb2⟩
      have hB2 : Hid (Below w.heap.size w w2) := below_tr hB1.out hb2
      clear hb2
      go_wp2
      go_ret
      exact ⟨rfl, hB2.out⟩
    rw [if_pos hdx] at HZR
    have HTO : Hid (∀ w, Strs w ra rl recs → Curs w ca cl curs → Calls Tryz.prog 34 #[ringV cap first ra rl rc ca cl cc] w fun e w' => ∃ a c, e = .returned (ringV cap first (some ⟨a, 0, none⟩) rl rl (some ⟨c, 0, none⟩) cl cl) ∧ OwnRing w' w.heap.size (some ⟨a, 0, none⟩) rl rl (some ⟨c, 0, none⟩) cl cl (recs.map Value.string) (curCells curs) ∧ Below w.heap.size w w') := fun w h1 h2 => law_toRing cap first ra rl rc ca cl cc recs curs w h1 h2 hrl hcl
    have hlen := put_len cap first recs curs k t d
    rw [HRL.out, HCL.out] at hlen
    obtain ⟨r, hr⟩ : ∃ r, putR cap first recs curs k t d = r := ⟨_, rfl⟩
    have HSP0 : Hid (∀ w a c, RFit w (some ⟨a, 0, none⟩) rl rl (some ⟨c, 0, none⟩) cl cl recs curs → Calls Tryz.prog 16 #[ringV cap first (some ⟨a, 0, none⟩) rl rl (some ⟨c, 0, none⟩) cl cl, recV k t d] w fun e w' => Answers w w' e r) := fun w a c h => by rw [← hr]; exact spec_ringPut recs curs k t d w h hd
    have HIM0 : Hid (∀ w a c, RFit w (some ⟨a, 0, none⟩) rl rl (some ⟨c, 0, none⟩) cl cl recs curs → utabs w → Calls Tryz.prog 7 #[ringV cap first (some ⟨a, 0, none⟩) rl rl (some ⟨c, 0, none⟩) cl cl, recV k t d] w fun e w' => Answers w w' e r) := fun w a c h hT => by rw [← hr]; exact impl_ringPut recs curs k t d w h hd hT
    rw [hr] at hlen
    clear hr
    obtain ⟨C, F, rs, cs, kk, tt, dd, cd⟩ := r
    unfold Answers at HSP0 HIM0
    obtain ⟨n, hn⟩ : ∃ n, rs.length = n := ⟨_, rfl⟩
    obtain ⟨m, hm⟩ : ∃ m, cs.length = m := ⟨_, rfl⟩
    obtain ⟨xs, hxs⟩ : ∃ xs, rs.map Value.string = xs := ⟨_, rfl⟩
    obtain ⟨ys, hys⟩ : ∃ ys, curCells cs = ys := ⟨_, rfl⟩
    simp only [hn, hm, hxs, hys] at HSP0 HIM0 hlen
    have hnl : n ≤ 2000000 := by omega
    have hml : m ≤ 2000000 := by omega
    have HSP : Hid (∀ w a c, RFit w (some ⟨a, 0, none⟩) rl rl (some ⟨c, 0, none⟩) cl cl recs curs → Calls Tryz.prog 16 #[ringV cap first (some ⟨a, 0, none⟩) rl rl (some ⟨c, 0, none⟩) cl cl, recV k t d] w fun e w' => ∃ a q b p, e = .returned (ringOutV C F a n q b m p kk tt dd cd) ∧ OwnRing w' w.heap.size a n q b m p xs ys ∧ Below w.heap.size w w') := HSP0.out
    have HIM : Hid (∀ w a c, RFit w (some ⟨a, 0, none⟩) rl rl (some ⟨c, 0, none⟩) cl cl recs curs → utabs w → Calls Tryz.prog 7 #[ringV cap first (some ⟨a, 0, none⟩) rl rl (some ⟨c, 0, none⟩) cl cl, recV k t d] w fun e w' => ∃ a q b p, e = .returned (ringOutV C F a n q b m p kk tt dd cd) ∧ OwnRing w' w.heap.size a n q b m p xs ys ∧ Below w.heap.size w w') := HIM0.out
    have HXS : Hid (rs.map Value.string = xs) := hxs
    have HYS : Hid (curCells cs = ys) := hys
    clear hn hm hxs hys hlen HSP0 HIM0
    have HEQ : Hid (∀ (a q c p a' q' c' p' : _) (b b' : Nat) (u : World), OwnRing u b a n q c m p xs ys → OwnRing u b' a' n q' c' m p' xs ys → Calls Tryz.prog 36 #[ringOutV C F a n q c m p kk tt dd cd, ringOutV C F a' n q' c' m p' kk tt dd cd] u fun e w' => e = .returned (.bool true) ∧ Below u.heap.size u w') := fun a q c p a' q' c' p' b b' u h h' => by
      rw [← HXS.out, ← HYS.out] at h h'
      exact law_eqRingOut C F a n q c m p a' q' c' p' kk tt dd cd rs cs u (own_strs h.1) (own_strs h'.1) (own_curs h.2) (own_curs h'.2) (by omega) (by omega)
    clear HXS HYS
    go_wp2_with fail
    refine (HZR.out _).mono ?_
    rintro e w2 ⟨rfl, hb2⟩
    have hA2 : Hid (w2.heap[w.heap.size]? = some (lringObj cap first ra rl rc ca cl cc)) := blk hA1.out hb2
    have hR2 : Hid (w2.heap[w.heap.size + 1]? = some (lrecObj k t d)) := blk hR1.out hb2
    have hB2 : Hid (Below w.heap.size w w2) := below_tr hB1.out hb2
    clear hb2 hA1 hR1 hB1 hcA hcR HZR
    have hcA := fun o => cell_of_block0 hA2.out o
    have hcR := fun o => cell_of_block0 hR2.out o
    have hz2 : w.heap.size + 1 < w2.heap.size := blk_lt hR2.out
    have hy2 : w.heap.size < w2.heap.size := Nat.lt_trans (Nat.lt_succ_self _) hz2
    have HAc : Hid (w2.drew.heap[w.heap.size]? = some (lringObj cap first ra rl rc ca cl cc)) := hA2.out
    have HRc : Hid (w2.drew.heap[w.heap.size + 1]? = some (lrecObj k t d)) := hR2.out
    have HBc : Hid (Below w.heap.size w w2.drew) := hB2.out.drew
    clear hA2 hR2 hB2
    go_upto_region 8 with fail
    go_cut [6] (fun s6 wc => ∃ (B N : Nat) (a3 : Option Addr) (q3 : Nat) (c3 : Option Addr) (p3 : Nat), s6 = .pointer (some ⟨B, 0, none⟩) ∧ Hid (KP w wc (lringObj cap first ra rl rc ca cl cc) (lrecObj k t d) (outObj C F a3 n q3 c3 m p3 kk tt dd cd) B N a3 n q3 c3 m p3 xs ys) ∧ Hid (N ≤ wc.heap.size))
    case first =>
      first | (go_region_with (first
        | (go_at_call 34; refine (HTO.out _ (strs_below HI.out.strs (by first | exact HBc.out | exact below_tr HBc.out (below_new _ _))) (curs_below HI.out.curs (by first | exact HBc.out | exact below_tr HBc.out (below_new _ _)))).mono ?_; rintro e wn ⟨aT, cT, rfl, hoT, hbT⟩; (first | (have HBX : Hid (BoxAt (w.heap.size + 2) wn _) := boxKeep HBX.out hbT) | (have HBX : Hid (BoxAt (w.heap.size + 2) wn w2.heap.size) := boxNew (W := w2.drew) (blk_lt HRc.out) hbT) | (have HBX : Hid (BoxAt (w.heap.size + 2) wn _) := boxNew (blk_lt HRc.out) hbT) | skip); (try (have hcO := fun o => cell_of_block0 HBX.out.box o)); (try (have hfO := fun o => unfrozen_of_block0 HBX.out.box o)); have HAc : Hid (wn.heap[w.heap.size]? = some (lringObj cap first ra rl rc ca cl cc)) := blk (by first | exact HAc.out | exact blk HAc.out (below_new _ _)) hbT; have HRc : Hid (wn.heap[w.heap.size + 1]? = some (lrecObj k t d)) := blk (by first | exact HRc.out | exact blk HRc.out (below_new _ _)) hbT; have HBc : Hid (Below w.heap.size w wn) := below_tr (by first | exact HBc.out | exact below_tr HBc.out (below_new _ _)) hbT; have hOT : Hid (RFit wn (some ⟨aT, 0, none⟩) rl rl (some ⟨cT, 0, none⟩) cl cl recs curs) := own_rfit hoT HSZ.out hrl hcl; have hcA := fun o => cell_of_block0 HAc.out o; have hcR := fun o => cell_of_block0 HRc.out o; have hzT : w.heap.size + 1 < wn.heap.size := blk_lt HRc.out; have hyT : w.heap.size < wn.heap.size := Nat.lt_trans (Nat.lt_succ_self _) hzT; clear hbT hoT)
        | (go_at_call 35; refine (law_toRec k t d _).mono ?_; rintro e wn ⟨rfl, hbn⟩; (first | (have HBX : Hid (BoxAt (w.heap.size + 2) wn _) := boxKeep HBX.out hbn) | (have HBX : Hid (BoxAt (w.heap.size + 2) wn w2.heap.size) := boxNew (W := w2.drew) (blk_lt HRc.out) hbn) | (have HBX : Hid (BoxAt (w.heap.size + 2) wn _) := boxNew (blk_lt HRc.out) hbn) | skip); (try (have hcO := fun o => cell_of_block0 HBX.out.box o)); (try (have hfO := fun o => unfrozen_of_block0 HBX.out.box o)); have HAc : Hid (wn.heap[w.heap.size]? = some (lringObj cap first ra rl rc ca cl cc)) := blk (by first | exact HAc.out | exact blk HAc.out (below_new _ _)) hbn; have HRc : Hid (wn.heap[w.heap.size + 1]? = some (lrecObj k t d)) := blk (by first | exact HRc.out | exact blk HRc.out (below_new _ _)) hbn; have HBc : Hid (Below w.heap.size w wn) := below_tr (by first | exact HBc.out | exact below_tr HBc.out (below_new _ _)) hbn; (try (have hOT : Hid (RFit wn (some ⟨aT, 0, none⟩) rl rl (some ⟨cT, 0, none⟩) cl cl recs curs) := RFit.below (by first | exact hOT.out | exact hOT.out.below (below_new _ _)) hbn)); have hcA := fun o => cell_of_block0 HAc.out o; have hcR := fun o => cell_of_block0 HRc.out o; have hzn : w.heap.size + 1 < wn.heap.size := blk_lt HRc.out; have hyn : w.heap.size < wn.heap.size := Nat.lt_trans (Nat.lt_succ_self _) hzn; clear hbn)
        | (go_at_call 16; refine (HSP.out _ aT cT (by first | exact hOT.out | exact hOT.out.below (below_new _ _))).mono ?_; rintro e w3 ⟨a3, q3, c3, p3, rfl, ho3, hb3⟩; (first | (have HBL := hidLt (blk_lt HBX.out.box); have HBX : Hid (BoxAt (w.heap.size + 2) w3 _) := boxKeep HBX.out hb3) | (have HBX : Hid (BoxAt (w.heap.size + 2) w3 w2.heap.size) := boxNew (W := w2.drew) (blk_lt HRc.out) hb3; have HBL := hidLt (boxLtOf (W := w2.drew) hb3)) | (have HBX : Hid (BoxAt (w.heap.size + 2) w3 _) := boxNew (blk_lt HRc.out) hb3; have HBL := hidLt (boxLtOf hb3)) | skip); (try (have hcO := fun o => cell_of_block0 HBX.out.box o)); (try (have hfO := fun o => unfrozen_of_block0 HBX.out.box o)); have HA3 : Hid (w3.heap[w.heap.size]? = some (lringObj cap first ra rl rc ca cl cc)) := blk (by first | exact HAc.out | exact blk HAc.out (below_new _ _)) hb3; have HR3 : Hid (w3.heap[w.heap.size + 1]? = some (lrecObj k t d)) := blk (by first | exact HRc.out | exact blk HRc.out (below_new _ _)) hb3; have HB3 : Hid (Below w.heap.size w w3) := below_tr (by first | exact HBc.out | exact below_tr HBc.out (below_new _ _)) hb3; have HO3 : Hid (OwnRing w3 _ a3 n q3 c3 m p3 xs ys) := ho3; have HS3 : Hid (w.heap.size ≤ _) := ((by first | exact HBc.out | exact below_tr HBc.out (below_new _ _)) : Below w.heap.size w _).size; clear hb3 ho3))) | fail
      all_goals (go_wp2_with fail; go_meet; first | exact ⟨_, _, a3, q3, c3, p3, rfl, kp_b HA3.out HR3.out HB3.out HO3.out HBX.out (Nat.le_refl _) HBL.out _ _ _ _ _ _ _ _, Nat.le_refl _⟩ | exact ⟨_, _, a3, q3, c3, p3, rfl, kp_a HA3.out HR3.out HB3.out HO3.out HS3.out, Nat.le_refl _⟩)
    case rest =>
    obtain ⟨B, N, a3, q3, c3, p3, rfl, HA3, hBc⟩ := hcut
    clear HAc HRc HBc hcA hcR HSP hz2 hy2
    have hBlt := hBc.out
    have hcA := fun o => cell_of_block0 HA3.out.ba o
    have hcR := fun o => cell_of_block0 HA3.out.br o
    have hcB := fun o => cell_of_block0 HA3.out.bb o
    go_wp2_with fail
    refine (HTO.out _ (strs_below HI.out.strs HA3.out.blo) (curs_below HI.out.curs HA3.out.blo)).mono ?_
    rintro e w4 ⟨a4, c4, rfl, ho4, hb4⟩
    have HA4 : Hid (KP w (w4.alloc (ringObj cap first (some ⟨a4, 0, none⟩) rl rl (some ⟨c4, 0, none⟩) cl cl)) (lringObj cap first ra rl rc ca cl cc) (lrecObj k t d) (outObj C F a3 n q3 c3 m p3 kk tt dd cd) B N a3 n q3 c3 m p3 xs ys) := (HA3.out.below hb4).below (below_new _ _)
    obtain ⟨X, hX⟩ : ∃ X, w4.heap.size = X := ⟨_, rfl⟩
    obtain ⟨T, hTT⟩ : ∃ T, (w4.alloc (ringObj cap first (some ⟨a4, 0, none⟩) rl rl (some ⟨c4, 0, none⟩) cl cl)).heap.size = T := ⟨_, rfl⟩
    have HX4 : Hid (KX (w4.alloc (ringObj cap first (some ⟨a4, 0, none⟩) rl rl (some ⟨c4, 0, none⟩) cl cl)) N X T (ringObj cap first (some ⟨a4, 0, none⟩) rl rl (some ⟨c4, 0, none⟩) cl cl) (some ⟨a4, 0, none⟩) rl rl (some ⟨c4, 0, none⟩) cl cl (recs.map Value.string) (curCells curs)) := by rw [← hX, ← hTT]; exact kx_a ho4 hBlt hb4.size
    have HNT : Hid (N ≤ T) := Nat.le_trans HX4.out.lo (Nat.le_of_lt HX4.out.hi)
    have hO4 : Hid (RFit (w4.alloc (ringObj cap first (some ⟨a4, 0, none⟩) rl rl (some ⟨c4, 0, none⟩) cl cl)).drew (some ⟨a4, 0, none⟩) rl rl (some ⟨c4, 0, none⟩) cl cl recs curs) := own_rfit HX4.out.own HSZ.out hrl hcl
    have HTl : Hid (T ≤ (w4.alloc (ringObj cap first (some ⟨a4, 0, none⟩) rl rl (some ⟨c4, 0, none⟩) cl cl)).drew.heap.size) := by rw [← hTT]; exact Nat.le_refl _
    have HA4d : Hid (KP w (w4.alloc (ringObj cap first (some ⟨a4, 0, none⟩) rl rl (some ⟨c4, 0, none⟩) cl cl)).drew (lringObj cap first ra rl rc ca cl cc) (lrecObj k t d) (outObj C F a3 n q3 c3 m p3 kk tt dd cd) B N a3 n q3 c3 m p3 xs ys) := HA4.out.below ((Below.refl _ _).drew)
    have HX4d : Hid (KX (w4.alloc (ringObj cap first (some ⟨a4, 0, none⟩) rl rl (some ⟨c4, 0, none⟩) cl cl)).drew N X T (ringObj cap first (some ⟨a4, 0, none⟩) rl rl (some ⟨c4, 0, none⟩) cl cl) (some ⟨a4, 0, none⟩) rl rl (some ⟨c4, 0, none⟩) cl cl (recs.map Value.string) (curCells curs)) := HX4.out.below ((Below.refl _ _).drew)
    clear hb4 ho4 HA3 hcA hcR hcB hBc hBlt hTT
    go_upto_region 10 with fail
    obtain ⟨W4, hW4⟩ : ∃ W4, w4.alloc (ringObj cap first (some ⟨a4, 0, none⟩) rl rl (some ⟨c4, 0, none⟩) cl cl) = W4 := ⟨_, rfl⟩
    rw [hW4] at HA4 HX4 hO4 HTl HA4d HX4d ⊢
    (try rw [hX])
    clear hW4 hX
    have hz4 : w.heap.size + 1 < W4.heap.size := blk_lt HA4.out.br
    have hy4 : w.heap.size < W4.heap.size := Nat.lt_trans (Nat.lt_succ_self _) hz4
    have hx4 : X < W4.heap.size := blk_lt HX4.out.bo
    have hcA := fun o => cell_of_block0 HA4.out.ba o
    have hcR := fun o => cell_of_block0 HA4.out.br o
    have hcB := fun o => cell_of_block0 HA4.out.bb o
    have hcX := fun o => cell_of_block0 HX4.out.bo o
    go_cut [8] (fun s8 wc => ∃ (G TG : Nat) (a5 : Option Addr) (q5 : Nat) (c5 : Option Addr) (p5 : Nat), s8 = .pointer (some ⟨G, 0, none⟩) ∧ Hid (KP w wc (lringObj cap first ra rl rc ca cl cc) (lrecObj k t d) (outObj C F a3 n q3 c3 m p3 kk tt dd cd) B N a3 n q3 c3 m p3 xs ys) ∧ Hid (KX wc N X T (ringObj cap first (some ⟨a4, 0, none⟩) rl rl (some ⟨c4, 0, none⟩) cl cl) (some ⟨a4, 0, none⟩) rl rl (some ⟨c4, 0, none⟩) cl cl (recs.map Value.string) (curCells curs)) ∧ Hid (KX wc T G TG (outObj C F a5 n q5 c5 m p5 kk tt dd cd) a5 n q5 c5 m p5 xs ys) ∧ Hid (TG ≤ wc.heap.size))
    case first =>
      first | (go_region_with (first
        | (go_at_call 35; refine (law_toRec k t d _).mono ?_; rintro e wn ⟨rfl, hbn⟩; (first | (have HBX : Hid (BoxAt (T) wn _) := boxKeep HBX.out hbn) | (have HBX : Hid (BoxAt (T) wn W4.heap.size) := boxNew (W := W4.drew) HTl.out hbn) | (have HBX : Hid (BoxAt (T) wn _) := boxNew HTl.out hbn) | skip); (try (have hcO := fun o => cell_of_block0 HBX.out.box o)); (try (have hfO := fun o => unfrozen_of_block0 HBX.out.box o)); have HA4d : Hid (KP w wn (lringObj cap first ra rl rc ca cl cc) (lrecObj k t d) (outObj C F a3 n q3 c3 m p3 kk tt dd cd) B N a3 n q3 c3 m p3 xs ys) := KP.below (by first | exact HA4d.out | exact HA4d.out.below (below_new _ _)) hbn; have HX4d : Hid (KX wn N X T (ringObj cap first (some ⟨a4, 0, none⟩) rl rl (some ⟨c4, 0, none⟩) cl cl) (some ⟨a4, 0, none⟩) rl rl (some ⟨c4, 0, none⟩) cl cl (recs.map Value.string) (curCells curs)) := KX.below (by first | exact HX4d.out | exact HX4d.out.below (below_new _ _)) hbn; have hO4 : Hid (RFit wn (some ⟨a4, 0, none⟩) rl rl (some ⟨c4, 0, none⟩) cl cl recs curs) := RFit.below (by first | exact hO4.out | exact hO4.out.below (below_new _ _)) hbn; have HTl : Hid (T ≤ wn.heap.size) := Nat.le_trans (by first | exact HTl.out | exact Nat.le_trans HTl.out (below_new _ _).size) hbn.size; have hcX := fun o => cell_of_block0 HX4d.out.bo o; have hzn : w.heap.size + 1 < wn.heap.size := blk_lt HA4d.out.br; have hyn : w.heap.size < wn.heap.size := Nat.lt_trans (Nat.lt_succ_self _) hzn; have hxn : X < wn.heap.size := blk_lt HX4d.out.bo; clear hbn)
        | (go_at_call 7; refine (HIM.out _ a4 c4 (by first | exact hO4.out | exact hO4.out.below (below_new _ _)) (utabs_below HT.out (by first | exact HA4d.out.blo | exact below_tr HA4d.out.blo (below_new _ _)))).mono ?_; rintro e w5 ⟨a5, q5, c5, p5, rfl, ho5, hb5⟩; (first | (have HBL := hidLt (blk_lt HBX.out.box); have HBX : Hid (BoxAt (T) w5 _) := boxKeep HBX.out hb5) | (have HBX : Hid (BoxAt (T) w5 W4.heap.size) := boxNew (W := W4.drew) HTl.out hb5; have HBL := hidLt (boxLtOf (W := W4.drew) hb5)) | (have HBX : Hid (BoxAt (T) w5 _) := boxNew HTl.out hb5; have HBL := hidLt (boxLtOf hb5)) | skip); (try (have hcO := fun o => cell_of_block0 HBX.out.box o)); (try (have hfO := fun o => unfrozen_of_block0 HBX.out.box o)); have HA5 : Hid (KP w w5 (lringObj cap first ra rl rc ca cl cc) (lrecObj k t d) (outObj C F a3 n q3 c3 m p3 kk tt dd cd) B N a3 n q3 c3 m p3 xs ys) := KP.below (by first | exact HA4d.out | exact HA4d.out.below (below_new _ _)) hb5; have HX5 : Hid (KX w5 N X T (ringObj cap first (some ⟨a4, 0, none⟩) rl rl (some ⟨c4, 0, none⟩) cl cl) (some ⟨a4, 0, none⟩) rl rl (some ⟨c4, 0, none⟩) cl cl (recs.map Value.string) (curCells curs)) := KX.below (by first | exact HX4d.out | exact HX4d.out.below (below_new _ _)) hb5; have HO5 : Hid (OwnRing w5 _ a5 n q5 c5 m p5 xs ys) := ho5; have HT5 : Hid (T ≤ _) := (by first | exact HTl.out | exact Nat.le_trans HTl.out (below_new _ _).size); have HS5 : Hid (_ ≤ w5.heap.size) := hb5.size; clear hb5 ho5))) | fail
      all_goals (go_wp2_with fail; go_meet; first | exact ⟨_, _, a5, q5, c5, p5, rfl, HA5.out.set8 (Nat.le_trans HNT.out HBX.out.lo) _ _ _ _ _ _ _ _, HX5.out.set8 HBX.out.lo _ _ _ _ _ _ _ _, kx_b HO5.out HBX.out (Nat.le_refl _) HBL.out _ _ _ _ _ _ _ _, Nat.le_refl _⟩ | exact ⟨_, _, a5, q5, c5, p5, rfl, HA5.out.below (below_new _ _), HX5.out.below (below_new _ _), kx_a HO5.out HT5.out HS5.out, Nat.le_refl _⟩)
    case rest =>
    obtain ⟨G, TG, a5, q5, c5, p5, rfl, HA5, HX5, HG5, HTG5⟩ := hcut
    clear HA4 HX4 HA4d HX4d hO4 HTl hcA hcR hcB hcX hz4 hy4 hx4
    have hcA := fun o => cell_of_block0 HA5.out.ba o
    have hcR := fun o => cell_of_block0 HA5.out.br o
    have hcB := fun o => cell_of_block0 HA5.out.bb o
    have hcX := fun o => cell_of_block0 HX5.out.bo o
    have hcG := fun o => cell_of_block0 HG5.out.bo o
    go_wp2_with fail
    refine (HEQ.out _ _ _ _ _ _ _ _ _ _ _ HG5.out.own HA5.out.own).mono ?_
    rintro e w6 ⟨rfl, hb6⟩
    have HA6 : Hid (KP w w6 (lringObj cap first ra rl rc ca cl cc) (lrecObj k t d) (outObj C F a3 n q3 c3 m p3 kk tt dd cd) B N a3 n q3 c3 m p3 xs ys) := HA5.out.below hb6
    have HX6 : Hid (KX w6 N X T (ringObj cap first (some ⟨a4, 0, none⟩) rl rl (some ⟨c4, 0, none⟩) cl cl) (some ⟨a4, 0, none⟩) rl rl (some ⟨c4, 0, none⟩) cl cl (recs.map Value.string) (curCells curs)) := HX5.out.below hb6
    have HG6 : Hid (KX w6 T G TG (outObj C F a5 n q5 c5 m p5 kk tt dd cd) a5 n q5 c5 m p5 xs ys) := HG5.out.below hb6
    have HTG6 : Hid (TG ≤ w6.heap.size) := Nat.le_trans HTG5.out hb6.size
    clear hb6 HA5 HX5 HG5 HTG5 hcA hcR hcB hcX hcG
    have hcA := fun o => cell_of_block0 HA6.out.ba o
    have hcR := fun o => cell_of_block0 HA6.out.br o
    have hcB := fun o => cell_of_block0 HA6.out.bb o
    have hcX := fun o => cell_of_block0 HX6.out.bo o
    have hcG := fun o => cell_of_block0 HG6.out.bo o
    go_upto_region 13 with fail
    go_cut [42] (fun sv wc => sv = .bool false ∧ Hid (KP w wc (lringObj cap first ra rl rc ca cl cc) (lrecObj k t d) (outObj C F a3 n q3 c3 m p3 kk tt dd cd) B N a3 n q3 c3 m p3 xs ys) ∧ Hid (KX wc N X T (ringObj cap first (some ⟨a4, 0, none⟩) rl rl (some ⟨c4, 0, none⟩) cl cl) (some ⟨a4, 0, none⟩) rl rl (some ⟨c4, 0, none⟩) cl cl (recs.map Value.string) (curCells curs)) ∧ Hid (KX wc T G TG (outObj C F a5 n q5 c5 m p5 kk tt dd cd) a5 n q5 c5 m p5 xs ys) ∧ Hid (TG ≤ wc.heap.size))
    case first =>
      first | (go_region_with (first
        | (go_at_call 34; refine (HTO.out _ (strs_below HI.out.strs HA6.out.blo.drew) (curs_below HI.out.curs HA6.out.blo.drew)).mono ?_; rintro e w7 ⟨a7, c7, rfl, ho7, hb7⟩; have HA7 : Hid (KP w w7 (lringObj cap first ra rl rc ca cl cc) (lrecObj k t d) (outObj C F a3 n q3 c3 m p3 kk tt dd cd) B N a3 n q3 c3 m p3 xs ys) := HA6.out.below (below_tr ((Below.refl _ _).drew) hb7); have HX7 : Hid (KX w7 N X T (ringObj cap first (some ⟨a4, 0, none⟩) rl rl (some ⟨c4, 0, none⟩) cl cl) (some ⟨a4, 0, none⟩) rl rl (some ⟨c4, 0, none⟩) cl cl (recs.map Value.string) (curCells curs)) := HX6.out.below (below_tr ((Below.refl _ _).drew) hb7); have HG7 : Hid (KX w7 T G TG (outObj C F a5 n q5 c5 m p5 kk tt dd cd) a5 n q5 c5 m p5 xs ys) := HG6.out.below (below_tr ((Below.refl _ _).drew) hb7); have HTG7 : Hid (TG ≤ w7.heap.size) := Nat.le_trans HTG6.out hb7.size; have hO7 : Hid (RIn w7 (some ⟨a7, 0, none⟩) rl rl (some ⟨c7, 0, none⟩) cl cl recs curs) := own_rin ho7 HSZ.out hrl hcl; have hcA7 := fun o => cell_of_block0 HA7.out.ba o; have hcX7 := fun o => cell_of_block0 HX7.out.bo o; clear hb7 ho7)
        | (go_at_call 37; refine (law_eqRing cap first (some ⟨a4, 0, none⟩) rl rl (some ⟨c4, 0, none⟩) cl cl (some ⟨a7, 0, none⟩) rl (some ⟨c7, 0, none⟩) cl recs curs _ (own_strs HX7.out.own.1) hO7.out.strs (own_curs HX7.out.own.2) hO7.out.curs (by omega) (by omega)).mono ?_; rintro e w8 ⟨rfl, hb8⟩; have HA8 : Hid (KP w w8 (lringObj cap first ra rl rc ca cl cc) (lrecObj k t d) (outObj C F a3 n q3 c3 m p3 kk tt dd cd) B N a3 n q3 c3 m p3 xs ys) := HA7.out.below hb8; have HX8 : Hid (KX w8 N X T (ringObj cap first (some ⟨a4, 0, none⟩) rl rl (some ⟨c4, 0, none⟩) cl cl) (some ⟨a4, 0, none⟩) rl rl (some ⟨c4, 0, none⟩) cl cl (recs.map Value.string) (curCells curs)) := HX7.out.below hb8; have HG8 : Hid (KX w8 T G TG (outObj C F a5 n q5 c5 m p5 kk tt dd cd) a5 n q5 c5 m p5 xs ys) := HG7.out.below hb8; have HTG8 : Hid (TG ≤ w8.heap.size) := Nat.le_trans HTG7.out hb8.size; clear hb8))) | fail
      all_goals (go_wp2_with fail; go_meet; exact ⟨rfl, HA8, HX8, HG8, HTG8⟩)
    case rest =>
    obtain ⟨rfl, HA8, HX8, HG8, HTG8⟩ := hcut
    clear HA6 HX6 HG6 HTG6 hcA hcR hcB hcX hcG
    have hcA := fun o => cell_of_block0 HA8.out.ba o
    have hcR := fun o => cell_of_block0 HA8.out.br o
    have hcB := fun o => cell_of_block0 HA8.out.bb o
    have hcX := fun o => cell_of_block0 HX8.out.bo o
    have hcG := fun o => cell_of_block0 HG8.out.bo o
    go_wp2_with fail
    refine (law_markRing cap first (some ⟨a4, 0, none⟩) rl rl (some ⟨c4, 0, none⟩) cl cl _ _ _ 1 _ HX8.out.own (by omega) (by omega)).mono ?_
    rintro e w9 ⟨rfl, _, hg9⟩
    have HA9 : Hid (KP w w9 (lringObj cap first ra rl rc ca cl cc) (lrecObj k t d) (outObj C F a3 n q3 c3 m p3 kk tt dd cd) B N a3 n q3 c3 m p3 xs ys) := HA8.out.mark HX8.out (Nat.le_refl _) hg9
    have HG9 : Hid (KX w9 T G TG (outObj C F a5 n q5 c5 m p5 kk tt dd cd) a5 n q5 c5 m p5 xs ys) := HG8.out.mark2 HX8.out (Nat.le_refl _) hg9
    have HTG9 : Hid (TG ≤ w9.heap.size) := Nat.le_trans HTG8.out hg9.2.2.2.1
    clear hg9 HA8 HX8 HG8 HTG8 hcA hcR hcB hcX hcG
    have hcA := fun o => cell_of_block0 HA9.out.ba o
    have hcR := fun o => cell_of_block0 HA9.out.br o
    have hcB := fun o => cell_of_block0 HA9.out.bb o
    have hcG := fun o => cell_of_block0 HG9.out.bo o
    go_wp2_with fail
    refine (HEQ.out _ _ _ _ _ _ _ _ _ _ _ HG9.out.own HA9.out.own).mono ?_
    rintro e w10 ⟨rfl, hb10⟩
    have HA10 : Hid (KP w w10 (lringObj cap first ra rl rc ca cl cc) (lrecObj k t d) (outObj C F a3 n q3 c3 m p3 kk tt dd cd) B N a3 n q3 c3 m p3 xs ys) := HA9.out.below hb10
    have HG10 : Hid (KX w10 T G TG (outObj C F a5 n q5 c5 m p5 kk tt dd cd) a5 n q5 c5 m p5 xs ys) := HG9.out.below hb10
    have HTG10 : Hid (TG ≤ w10.heap.size) := Nat.le_trans HTG9.out hb10.size
    clear hb10 HA9 HG9 HTG9 hcA hcR hcB hcG
    have hcA := fun o => cell_of_block0 HA10.out.ba o
    have hcR := fun o => cell_of_block0 HA10.out.br o
    have hcB := fun o => cell_of_block0 HA10.out.bb o
    have hcG := fun o => cell_of_block0 HG10.out.bo o
    go_wp2_with fail
    refine (law_markRingOut C F a5 n q5 c5 m p5 kk tt dd cd _ _ _ 1 _ HG10.out.own (by omega) (by omega)).mono ?_
    rintro e w11 ⟨rfl, ho11, hg11⟩
    have HA11 : Hid (KP w w11 (lringObj cap first ra rl rc ca cl cc) (lrecObj k t d) (outObj C F a3 n q3 c3 m p3 kk tt dd cd) B N a3 n q3 c3 m p3 xs ys) := HA10.out.mark HG10.out HNT.out hg11
    have HG11 : Hid (KX w11 T G TG (outObj C F a5 n q5 c5 m p5 kk tt dd cd) a5 n q5 c5 m p5 (mStr 1 xs n) (mCur (1 + n) ys (m * 2))) := HG10.out.mark ho11 hg11
    have HTG11 : Hid (TG ≤ w11.heap.size) := Nat.le_trans HTG10.out hg11.2.2.2.1
    clear hg11 ho11 HA10 HG10 HTG10 hcA hcR hcB hcG
    have hcA := fun o => cell_of_block0 HA11.out.ba o
    have hcR := fun o => cell_of_block0 HA11.out.br o
    have hcB := fun o => cell_of_block0 HA11.out.bb o
    have hcG := fun o => cell_of_block0 HG11.out.bo o
    go_wp2_with fail
    refine (law_heldRingOut C F a5 n q5 c5 m p5 kk tt dd cd _ _ _ 1 _ HG11.out.own (by omega) (by omega)).mono ?_
    rintro e w12 ⟨rfl, hb12⟩
    have HA12 : Hid (KP w w12 (lringObj cap first ra rl rc ca cl cc) (lrecObj k t d) (outObj C F a3 n q3 c3 m p3 kk tt dd cd) B N a3 n q3 c3 m p3 xs ys) := HA11.out.below hb12
    have HG12 : Hid (KX w12 T G TG (outObj C F a5 n q5 c5 m p5 kk tt dd cd) a5 n q5 c5 m p5 (mStr 1 xs n) (mCur (1 + n) ys (m * 2))) := HG11.out.below hb12
    have HTl : Hid (TG ≤ w12.drew.heap.size) := Nat.le_trans HTG11.out hb12.size
    have HNG : Hid (N ≤ TG) := Nat.le_trans HNT.out (Nat.le_trans HG12.out.lo (Nat.le_of_lt HG12.out.hi))
    clear hb12 HA11 HG11 HTG11 hcA hcR hcB hcG
    have hcA := fun o => cell_of_block0 HA12.out.ba o
    have hcR := fun o => cell_of_block0 HA12.out.br o
    have hcB := fun o => cell_of_block0 HA12.out.bb o
    have hcG := fun o => cell_of_block0 HG12.out.bo o
    have hk0 : ¬ (((1 + n + m * 2 : Nat) : Int) < 0) := by omega
    have hz12 : w.heap.size + 1 < w12.heap.size := blk_lt HA12.out.br
    have hy12 : w.heap.size < w12.heap.size := Nat.lt_trans (Nat.lt_succ_self _) hz12
    have HAc : Hid (KP w w12.drew (lringObj cap first ra rl rc ca cl cc) (lrecObj k t d) (outObj C F a3 n q3 c3 m p3 kk tt dd cd) B N a3 n q3 c3 m p3 xs ys) := HA12.out.below ((Below.refl _ _).drew)
    have HGc : Hid (KX w12.drew T G TG (outObj C F a5 n q5 c5 m p5 kk tt dd cd) a5 n q5 c5 m p5 (mStr 1 xs n) (mCur (1 + n) ys (m * 2))) := HG12.out.below ((Below.refl _ _).drew)
    go_upto_region 27 with fail
    go_cut [12] (fun s12 wc => ∃ (H : Nat) (a14 : Option Addr) (q14 : Nat) (c14 : Option Addr) (p14 b14 : Nat), s12 = .pointer (some ⟨H, 0, none⟩) ∧ Hid (KP w wc (lringObj cap first ra rl rc ca cl cc) (lrecObj k t d) (outObj C F a3 n q3 c3 m p3 kk tt dd cd) B N a3 n q3 c3 m p3 xs ys) ∧ Hid (KX wc T G TG (outObj C F a5 n q5 c5 m p5 kk tt dd cd) a5 n q5 c5 m p5 (mStr 1 xs n) (mCur (1 + n) ys (m * 2))) ∧ Hid (OwnRing wc b14 a14 n q14 c14 m p14 xs ys) ∧ Hid (wc.heap[H]? = some (outObj C F a14 n q14 c14 m p14 kk tt dd cd)))
    case first =>
      first | (go_region_with (first
        | (go_at_call 34; refine (HTO.out _ (strs_below HI.out.strs (by first | exact HAc.out.blo | exact below_tr HAc.out.blo (below_new _ _))) (curs_below HI.out.curs (by first | exact HAc.out.blo | exact below_tr HAc.out.blo (below_new _ _)))).mono ?_; rintro e wn ⟨aT, cT, rfl, hoT, hbT⟩; (first | (have HBX : Hid (BoxAt (TG) wn _) := boxKeep HBX.out hbT) | (have HBX : Hid (BoxAt (TG) wn w12.heap.size) := boxNew (W := w12.drew) HTl.out hbT) | (have HBX : Hid (BoxAt (TG) wn _) := boxNew HTl.out hbT) | skip); (try (have hcO := fun o => cell_of_block0 HBX.out.box o)); (try (have hfO := fun o => unfrozen_of_block0 HBX.out.box o)); have HAc : Hid (KP w wn (lringObj cap first ra rl rc ca cl cc) (lrecObj k t d) (outObj C F a3 n q3 c3 m p3 kk tt dd cd) B N a3 n q3 c3 m p3 xs ys) := KP.below (by first | exact HAc.out | exact HAc.out.below (below_new _ _)) hbT; have HGc : Hid (KX wn T G TG (outObj C F a5 n q5 c5 m p5 kk tt dd cd) a5 n q5 c5 m p5 (mStr 1 xs n) (mCur (1 + n) ys (m * 2))) := KX.below (by first | exact HGc.out | exact HGc.out.below (below_new _ _)) hbT; have HTl : Hid (TG ≤ wn.heap.size) := Nat.le_trans (by first | exact HTl.out | exact Nat.le_trans HTl.out (below_new _ _).size) hbT.size; have hOT : Hid (RFit wn (some ⟨aT, 0, none⟩) rl rl (some ⟨cT, 0, none⟩) cl cl recs curs) := own_rfit hoT HSZ.out hrl hcl; have hcA := fun o => cell_of_block0 HAc.out.ba o; have hcR := fun o => cell_of_block0 HAc.out.br o; have hzT : w.heap.size + 1 < wn.heap.size := blk_lt HAc.out.br; have hyT : w.heap.size < wn.heap.size := Nat.lt_trans (Nat.lt_succ_self _) hzT; clear hbT hoT)
        | (go_at_call 35; refine (law_toRec k t d _).mono ?_; rintro e wn ⟨rfl, hbn⟩; (first | (have HBX : Hid (BoxAt (TG) wn _) := boxKeep HBX.out hbn) | (have HBX : Hid (BoxAt (TG) wn w12.heap.size) := boxNew (W := w12.drew) HTl.out hbn) | (have HBX : Hid (BoxAt (TG) wn _) := boxNew HTl.out hbn) | skip); (try (have hcO := fun o => cell_of_block0 HBX.out.box o)); (try (have hfO := fun o => unfrozen_of_block0 HBX.out.box o)); have HAc : Hid (KP w wn (lringObj cap first ra rl rc ca cl cc) (lrecObj k t d) (outObj C F a3 n q3 c3 m p3 kk tt dd cd) B N a3 n q3 c3 m p3 xs ys) := KP.below (by first | exact HAc.out | exact HAc.out.below (below_new _ _)) hbn; have HGc : Hid (KX wn T G TG (outObj C F a5 n q5 c5 m p5 kk tt dd cd) a5 n q5 c5 m p5 (mStr 1 xs n) (mCur (1 + n) ys (m * 2))) := KX.below (by first | exact HGc.out | exact HGc.out.below (below_new _ _)) hbn; have HTl : Hid (TG ≤ wn.heap.size) := Nat.le_trans (by first | exact HTl.out | exact Nat.le_trans HTl.out (below_new _ _).size) hbn.size; (try (have hOT : Hid (RFit wn (some ⟨aT, 0, none⟩) rl rl (some ⟨cT, 0, none⟩) cl cl recs curs) := RFit.below (by first | exact hOT.out | exact hOT.out.below (below_new _ _)) hbn)); have hcA := fun o => cell_of_block0 HAc.out.ba o; have hcR := fun o => cell_of_block0 HAc.out.br o; have hzn : w.heap.size + 1 < wn.heap.size := blk_lt HAc.out.br; have hyn : w.heap.size < wn.heap.size := Nat.lt_trans (Nat.lt_succ_self _) hzn; clear hbn)
        | (go_at_call 7; refine (HIM.out _ aT cT (by first | exact hOT.out | exact hOT.out.below (below_new _ _)) (utabs_below HT.out (by first | exact HAc.out.blo | exact below_tr HAc.out.blo (below_new _ _)))).mono ?_; rintro e w14 ⟨a14, q14, c14, p14, rfl, ho14, hb14⟩; (first | (have HBL := hidLt (blk_lt HBX.out.box); have HBX : Hid (BoxAt (TG) w14 _) := boxKeep HBX.out hb14) | (have HBX : Hid (BoxAt (TG) w14 w12.heap.size) := boxNew (W := w12.drew) HTl.out hb14; have HBL := hidLt (boxLtOf (W := w12.drew) hb14)) | (have HBX : Hid (BoxAt (TG) w14 _) := boxNew HTl.out hb14; have HBL := hidLt (boxLtOf hb14)) | skip); (try (have hcO := fun o => cell_of_block0 HBX.out.box o)); (try (have hfO := fun o => unfrozen_of_block0 HBX.out.box o)); have HA14 : Hid (KP w w14 (lringObj cap first ra rl rc ca cl cc) (lrecObj k t d) (outObj C F a3 n q3 c3 m p3 kk tt dd cd) B N a3 n q3 c3 m p3 xs ys) := KP.below (by first | exact HAc.out | exact HAc.out.below (below_new _ _)) hb14; have HG14 : Hid (KX w14 T G TG (outObj C F a5 n q5 c5 m p5 kk tt dd cd) a5 n q5 c5 m p5 (mStr 1 xs n) (mCur (1 + n) ys (m * 2))) := KX.below (by first | exact HGc.out | exact HGc.out.below (below_new _ _)) hb14; have HO14 : Hid (OwnRing w14 _ a14 n q14 c14 m p14 xs ys) := ho14; clear hb14 ho14))) | fail
      all_goals (go_wp2_with fail; go_meet; first | exact ⟨_, a14, q14, c14, p14, _, rfl, HA14.out.set8 (Nat.le_trans HNG.out HBX.out.lo) _ _ _ _ _ _ _ _, HG14.out.set8 HBX.out.lo _ _ _ _ _ _ _ _, ⟨own_set8 HO14.out.1 _ HBL.out _ _ _ _ _ _ _ _, own_set8 HO14.out.2 _ HBL.out _ _ _ _ _ _ _ _⟩, at_box HBX.out.box⟩ | exact ⟨_, a14, q14, c14, p14, _, rfl, HA14.out.below (below_new _ _), HG14.out.below (below_new _ _), HO14.out.below (below_new _ _), heap_alloc_new _ _⟩)
    case rest =>
    obtain ⟨H, a14, q14, c14, p14, b14, rfl, HA14, HG14, HO14, HH14⟩ := hcut
    clear HA12 HG12 HTl hcA hcR hcB hcG hz12 hy12
    have hcB := fun o => cell_of_block0 HA14.out.bb o
    have hcG := fun o => cell_of_block0 HG14.out.bo o
    have hcH := fun o => cell_of_block0 HH14.out o
    go_wp2_with fail
    refine (HEQ.out _ _ _ _ _ _ _ _ _ _ _ HO14.out HA14.out.own).mono ?_
    rintro e w15 ⟨rfl, hb15⟩
    have HA15 : Hid (KP w w15 (lringObj cap first ra rl rc ca cl cc) (lrecObj k t d) (outObj C F a3 n q3 c3 m p3 kk tt dd cd) B N a3 n q3 c3 m p3 xs ys) := HA14.out.below hb15
    have HG15 : Hid (KX w15 T G TG (outObj C F a5 n q5 c5 m p5 kk tt dd cd) a5 n q5 c5 m p5 (mStr 1 xs n) (mCur (1 + n) ys (m * 2))) := HG14.out.below hb15
    clear hb15 HA14 HG14 HO14 HH14 hcB hcG hcH
    have hcG := fun o => cell_of_block0 HG15.out.bo o
    go_wp2_with fail
    refine (law_heldRingOut C F a5 n q5 c5 m p5 kk tt dd cd _ _ _ 1 _ HG15.out.own (by omega) (by omega)).mono ?_
    rintro e w16 ⟨rfl, hb16⟩
    have HB16 : Hid (Below w.heap.size w w16) := below_tr HA15.out.blo hb16
    clear hb16 HA15 HG15 hcG
    go_wp2
    go_ret
    exact ⟨rfl, HB16.out⟩
  · rw [show ringLeft 1048576 rl (strSum recs) cl = -1 by rw [ringLeft, if_neg hs]] at HZ
    clear hs
    go_enter Tryz.func4, Tryz.ntmps4
    go_wp2_with fail
    refine (HZ.out _ hL0.out).mono ?_
    rintro e w1 ⟨rfl, hb1⟩
    have hB1 : Hid (Below w.heap.size w w1) := below_tr hB0.out hb1
    clear hb1
    go_wp2
    go_ret
    exact ⟨rfl, hB1.out⟩
end Go.Proofs.YtopbfjdjlgecpaaGreatDoor
