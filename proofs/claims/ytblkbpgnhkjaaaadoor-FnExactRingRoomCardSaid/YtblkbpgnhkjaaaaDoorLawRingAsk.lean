/- The laws of RingRight, RingEnd, RingRoom. -/
import Derived.Test.YtblkbpgnhkjaaaaDoorLawRing5
import Derived.Test.YtblkbpgnhkjaaaaDoorRingAsk
import Derived.Deep.DeepCutAuto
namespace Go.Proofs.YtblkbpgnhkjaaaaDoor
open Go.RowKit

theorem own_rin {w : World} {base a c rl cl : Nat} {recs : List ByteArray} {curs : List (Int × Int)} (h : OwnRing w base (some ⟨a, 0, none⟩) rl rl (some ⟨c, 0, none⟩) cl cl (recs.map Value.string) (curCells curs)) (hs : ∀ s ∈ recs, s.size ≤ 1048576) (hr : rl ≤ 1048576) (hc : cl ≤ 1048576) :
    RIn w (some ⟨a, 0, none⟩) rl rl (some ⟨c, 0, none⟩) cl cl recs curs :=
  ⟨own_strs h.1, own_curs h.2, (fun x e => by cases e; exact (h.1.lt a rfl).2), (fun x e => by cases e; exact (h.2.lt c rfl).2), (fun e => by cases e), (fun e => by cases e), hs, hr, hc⟩
theorem OwnRing.below {w w' : World} {base : Nat} {ra : Option Addr} {rl rc : Nat} {ca : Option Addr} {cl cc : Nat} {xs ys : List Value} (h : OwnRing w base ra rl rc ca cl cc xs ys) (hb : Below w.heap.size w w') : OwnRing w' base ra rl rc ca cl cc xs ys :=
  ⟨h.1.kept (below_grown hb) (by cases (Value.slice ra rl rc).ownBlock <;> simp), h.2.kept (below_grown hb) (by cases (Value.slice ca cl cc).ownBlock <;> simp)⟩
/-- What the laws ask of the ring that is handed in. -/
structure LIn (w : World) (ra : Option Addr) (rl : Nat) (ca : Option Addr) (cl : Nat) (recs : List ByteArray) (curs : List (Int × Int)) : Prop where
  strs : Strs w ra rl recs
  curs : Curs w ca cl curs
  sz : ∀ s ∈ recs, s.size ≤ maxLen
  rle : rl ≤ maxLen
  cle : cl ≤ maxLen
abbrev lringObj (cap first : Int) (ra : Option Addr) (rl rc : Nat) (ca : Option Addr) (cl cc : Nat) : Obj := .cells #[.int .i64 cap, .int .i64 first, .slice ra rl rc, .slice ca cl cc] 25 (0, 0)
set_option maxHeartbeats 2000000 in
theorem law_ringRight (cap first : Int) (ra : Option Addr) (rl rc : Nat) (ca : Option Addr) (cl cc : Nat) (recs : List ByteArray) (curs : List (Int × Int)) (w : World) (hi : LIn w ra rl ca cl recs curs) (hT : utabs w) :
    Calls Tryd.prog 3 #[ringV cap first ra rl rc ca cl cc] w fun e w' => e = .returned (.bool true) ∧ Below w.heap.size w w' := by
  have HI : Hid (LIn w ra rl ca cl recs curs) := hi
  have HT : Hid (utabs w) := hT
  have HZ : Hid _ := fun w (hi : LIn w ra rl ca cl recs curs) => law_szRing cap first ra rl rc ca cl cc recs w hi.strs hi.rle hi.sz hi.cle
  have hB0 : Hid (Below w.heap.size w (w.alloc (lringObj cap first ra rl rc ca cl cc))) := (Below.refl _ _).alloc (Nat.le_refl _) _
  have hL0 : Hid (LIn (w.alloc (lringObj cap first ra rl rc ca cl cc)) ra rl ca cl recs curs) := ⟨strs_below hi.strs hB0.out, curs_below hi.curs hB0.out, hi.sz, hi.rle, hi.cle⟩
  clear hi hT
  by_cases hs : rl + strSum recs + cl ≤ 1048576
  · rw [show ringLeft 1048576 rl (strSum recs) cl = ((1048576 - (rl + strSum recs + cl) : Nat) : Int) by rw [ringLeft, if_pos hs]] at HZ
    have hrl : rl ≤ 1048576 := by omega
    have hcl : cl ≤ 1048576 := by omega
    have HSZ : Hid (∀ s ∈ recs, s.size ≤ 1048576) := fun s h => by have := strSum_mem recs s h; omega
    obtain ⟨x, hx⟩ : ∃ x, 1048576 - (rl + strSum recs + cl) = x := ⟨_, rfl⟩
    rw [hx] at HZ
    clear hx hs
    have HTO : Hid (∀ w, Strs w ra rl recs → Curs w ca cl curs → Calls Tryd.prog 8 #[ringV cap first ra rl rc ca cl cc] w fun e w' => ∃ a c, e = .returned (ringV cap first (some ⟨a, 0, none⟩) rl rl (some ⟨c, 0, none⟩) cl cl) ∧ OwnRing w' w.heap.size (some ⟨a, 0, none⟩) rl rl (some ⟨c, 0, none⟩) cl cl (recs.map Value.string) (curCells curs) ∧ Below w.heap.size w w') := fun w h1 h2 => law_toRing cap first ra rl rc ca cl cc recs curs w h1 h2 hrl hcl
    have HSP : Hid (∀ w a c, RIn w (some ⟨a, 0, none⟩) rl rl (some ⟨c, 0, none⟩) cl cl recs curs → Calls Tryd.prog 7 #[ringV cap first (some ⟨a, 0, none⟩) rl rl (some ⟨c, 0, none⟩) cl cl] w fun e w' => e = .returned (.bool (ringRightB cap first recs curs)) ∧ Below w.heap.size w w') := fun w a c h => spec_ringRight cap first _ rl rl _ cl cl recs curs w h.strs h.curs h.sz' h.rle h.cle
    have HIM : Hid (∀ w a c, RIn w (some ⟨a, 0, none⟩) rl rl (some ⟨c, 0, none⟩) cl cl recs curs → utabs w → Calls Tryd.prog 9 #[ringV cap first (some ⟨a, 0, none⟩) rl rl (some ⟨c, 0, none⟩) cl cl] w fun e w' => e = .returned (.bool (ringRightB cap first recs curs)) ∧ Below w.heap.size w w') := fun w a c h hT => impl_ringRight recs curs w h hT
    obtain ⟨R, hR⟩ : ∃ R, ringRightB cap first recs curs = R := ⟨_, rfl⟩
    rw [hR] at HSP HIM
    have hRR : (R != R) = false := by simp
    clear hR
    go_enter Tryd.func3, Tryd.ntmps3
    go_wp2_with fail
    refine (HZ.out _ hL0.out).mono ?_
    rintro e w1 ⟨rfl, hb1⟩
    have hc1 := fun o => hb1.cell (p := ⟨w.heap.size, o, none⟩) (by simp)
    have hz1 : w.heap.size < w1.heap.size := by have h := hb1.size; simp at h; omega
    have hB1 : Hid (Below w.heap.size w w1) := below_tr hB0.out hb1
    clear hb1
    go_wp2_with fail
    refine (HTO.out _ (strs_below HI.out.strs hB1.out) (curs_below HI.out.curs hB1.out)).mono ?_
    rintro e w2 ⟨a2, c2, rfl, ho2, hb2⟩
    have hc2 := fun o => hb2.cell (p := ⟨w.heap.size, o, none⟩) hz1
    have hz2 : w.heap.size < w2.heap.size := by have h := hb2.size; omega
    have hB2 : Hid (Below w.heap.size w w2) := below_tr hB1.out hb2
    have hO2 : Hid (RIn w2 (some ⟨a2, 0, none⟩) rl rl (some ⟨c2, 0, none⟩) cl cl recs curs) := own_rin ho2 HSZ.out hrl hcl
    clear hb2 ho2
    go_wp2_with fail
    refine (HSP.out _ a2 c2 hO2.out).mono ?_
    rintro e w3 ⟨rfl, hb3⟩
    have hc3 := fun o => hb3.cell (p := ⟨w.heap.size, o, none⟩) hz2
    have hz3 : w.heap.size < w3.heap.size := by have h := hb3.size; omega
    have hB3 : Hid (Below w.heap.size w w3) := below_tr hB2.out hb3
    clear hb3
    go_wp2_with fail
    refine (HTO.out _ (strs_below HI.out.strs hB3.out) (curs_below HI.out.curs hB3.out)).mono ?_
    rintro e w4 ⟨a4, c4, rfl, ho4, hb4⟩
    have hc4 := fun o => hb4.cell (p := ⟨w.heap.size, o, none⟩) hz3
    have hz4 : w.heap.size < w4.heap.size := by have h := hb4.size; omega
    have hB4 : Hid (Below w.heap.size w w4) := below_tr hB3.out hb4
    have hO4 : Hid (RIn w4 (some ⟨a4, 0, none⟩) rl rl (some ⟨c4, 0, none⟩) cl cl recs curs) := own_rin ho4 HSZ.out hrl hcl
    clear hb4 ho4
    have hB4' : Hid (Below w4.heap.size w4 (w4.alloc (ringObj cap first (some ⟨a4, 0, none⟩) rl rl (some ⟨c4, 0, none⟩) cl cl))) := (Below.refl _ _).alloc (Nat.le_refl _) _
    go_wp2_with fail
    refine (HIM.out _ a4 c4 (hO4.out.below hB4'.out) (utabs_below HT.out (below_tr hB4.out hB4'.out))).mono ?_
    rintro e w5 ⟨rfl, hb5⟩
    have hc5 := fun o => hb5.cell (p := ⟨w.heap.size, o, none⟩) (by simp; omega)
    have hd5 := fun o => hb5.cell (p := ⟨w4.heap.size, o, none⟩) (by simp)
    have hy5 : w4.heap.size < w5.heap.size := by have h := hb5.size; simp at h; omega
    have hz5 : w.heap.size < w5.heap.size := by omega
    have hO5 : Hid (RIn w5 (some ⟨a4, 0, none⟩) rl rl (some ⟨c4, 0, none⟩) cl cl recs curs) := (hO4.out.below hB4'.out).below hb5
    have hB5 : Hid (Below w.heap.size w w5) := below_tr (below_tr hB4.out hB4'.out) hb5
    clear hb5
    have hB5' : Hid (∀ wx, Below w5.heap.size w5 wx → Below w.heap.size w wx) := fun wx h => below_tr hB5.out h
    go_upto_region 10 with fail
    go_cut [26] (fun t wc => t = .bool false ∧ Hid (Below w.heap.size w wc))
    case first =>
      go_region_with (first
        | (go_at_call 8; refine (HTO.out _ (strs_below HI.out.strs hB5.out.drew) (curs_below HI.out.curs hB5.out.drew)).mono ?_; rintro e w6 ⟨a6, c6, rfl, ho6, hb6⟩; have hc6 := fun o => hb6.cell (p := ⟨w.heap.size, o, none⟩) hz5; have hd6 := fun o => hb6.cell (p := ⟨w4.heap.size, o, none⟩) hy5; have hB6 : Hid (Below w.heap.size w w6) := below_tr hB5.out.drew hb6; have hO6 : Hid (RIn w6 (some ⟨a6, 0, none⟩) rl rl (some ⟨c6, 0, none⟩) cl cl recs curs) := own_rin ho6 HSZ.out hrl hcl; have hP6 : Hid (RIn w6 (some ⟨a4, 0, none⟩) rl rl (some ⟨c4, 0, none⟩) cl cl recs curs) := hO5.out.below (below_tr ((Below.refl _ _).drew) hb6); clear hb6 ho6)
        | (go_at_call 10; refine (law_eqRing cap first (some ⟨a4, 0, none⟩) rl rl (some ⟨c4, 0, none⟩) cl cl (some ⟨a6, 0, none⟩) rl (some ⟨c6, 0, none⟩) cl recs curs _ hP6.out.strs hO6.out.strs hP6.out.curs hO6.out.curs (by omega) (by omega)).mono ?_; rintro e w7 ⟨rfl, hb7⟩; have hB7 : Hid (Below w.heap.size w w7) := below_tr hB6.out hb7; clear hb7))
      all_goals (go_wp2_with fail; go_meet; exact ⟨rfl, hB7.out⟩)
    case rest =>
    obtain ⟨rfl, hBc⟩ := hcut
    go_wp2
    go_ret
    exact ⟨rfl, hBc.out⟩
  · rw [show ringLeft 1048576 rl (strSum recs) cl = -1 by rw [ringLeft, if_neg hs]] at HZ
    clear hs
    go_enter Tryd.func3, Tryd.ntmps3
    go_wp2_with fail
    refine (HZ.out _ hL0.out).mono ?_
    rintro e w1 ⟨rfl, hb1⟩
    have hB1 : Hid (Below w.heap.size w w1) := below_tr hB0.out hb1
    clear hb1
    go_wp2
    go_ret
    exact ⟨rfl, hB1.out⟩
set_option maxHeartbeats 2000000 in
theorem law_ringEnd (cap first : Int) (ra : Option Addr) (rl rc : Nat) (ca : Option Addr) (cl cc : Nat) (recs : List ByteArray) (curs : List (Int × Int)) (w : World) (hi : LIn w ra rl ca cl recs curs) (hT : utabs w) :
    Calls Tryd.prog 4 #[ringV cap first ra rl rc ca cl cc] w fun e w' => e = .returned (.bool true) ∧ Below w.heap.size w w' := by
  have HI : Hid (LIn w ra rl ca cl recs curs) := hi
  have HT : Hid (utabs w) := hT
  have HZ : Hid _ := fun w (hi : LIn w ra rl ca cl recs curs) => law_szRing cap first ra rl rc ca cl cc recs w hi.strs hi.rle hi.sz hi.cle
  have hB0 : Hid (Below w.heap.size w (w.alloc (lringObj cap first ra rl rc ca cl cc))) := (Below.refl _ _).alloc (Nat.le_refl _) _
  have hL0 : Hid (LIn (w.alloc (lringObj cap first ra rl rc ca cl cc)) ra rl ca cl recs curs) := ⟨strs_below hi.strs hB0.out, curs_below hi.curs hB0.out, hi.sz, hi.rle, hi.cle⟩
  clear hi hT
  by_cases hs : rl + strSum recs + cl ≤ 1048576
  · rw [show ringLeft 1048576 rl (strSum recs) cl = ((1048576 - (rl + strSum recs + cl) : Nat) : Int) by rw [ringLeft, if_pos hs]] at HZ
    have hrl : rl ≤ 1048576 := by omega
    have hcl : cl ≤ 1048576 := by omega
    have HSZ : Hid (∀ s ∈ recs, s.size ≤ 1048576) := fun s h => by have := strSum_mem recs s h; omega
    obtain ⟨x, hx⟩ : ∃ x, 1048576 - (rl + strSum recs + cl) = x := ⟨_, rfl⟩
    rw [hx] at HZ
    clear hx hs
    have HTO : Hid (∀ w, Strs w ra rl recs → Curs w ca cl curs → Calls Tryd.prog 8 #[ringV cap first ra rl rc ca cl cc] w fun e w' => ∃ a c, e = .returned (ringV cap first (some ⟨a, 0, none⟩) rl rl (some ⟨c, 0, none⟩) cl cl) ∧ OwnRing w' w.heap.size (some ⟨a, 0, none⟩) rl rl (some ⟨c, 0, none⟩) cl cl (recs.map Value.string) (curCells curs) ∧ Below w.heap.size w w') := fun w h1 h2 => law_toRing cap first ra rl rc ca cl cc recs curs w h1 h2 hrl hcl
    have HSP : Hid (∀ w a c, RIn w (some ⟨a, 0, none⟩) rl rl (some ⟨c, 0, none⟩) cl cl recs curs → Calls Tryd.prog 11 #[ringV cap first (some ⟨a, 0, none⟩) rl rl (some ⟨c, 0, none⟩) cl cl] w fun e w' => e = .returned (.int .i64 (endOf cap first recs curs)) ∧ Below w.heap.size w w') := fun w a c h => spec_ringEnd recs curs w h
    have HIM : Hid (∀ w a c, RIn w (some ⟨a, 0, none⟩) rl rl (some ⟨c, 0, none⟩) cl cl recs curs → utabs w → Calls Tryd.prog 12 #[ringV cap first (some ⟨a, 0, none⟩) rl rl (some ⟨c, 0, none⟩) cl cl] w fun e w' => e = .returned (.int .i64 (endOf cap first recs curs)) ∧ Below w.heap.size w w') := fun w a c h hT => impl_ringEnd recs curs w h hT
    obtain ⟨R, hR⟩ : ∃ R, endOf cap first recs curs = R := ⟨_, rfl⟩
    rw [hR] at HSP HIM
    have hRR : (R != R) = false := by simp
    clear hR
    go_enter Tryd.func4, Tryd.ntmps4
    go_wp2_with fail
    refine (HZ.out _ hL0.out).mono ?_
    rintro e w1 ⟨rfl, hb1⟩
    have hc1 := fun o => hb1.cell (p := ⟨w.heap.size, o, none⟩) (by simp)
    have hz1 : w.heap.size < w1.heap.size := by have h := hb1.size; simp at h; omega
    have hB1 : Hid (Below w.heap.size w w1) := below_tr hB0.out hb1
    clear hb1
    go_wp2_with fail
    refine (HTO.out _ (strs_below HI.out.strs hB1.out) (curs_below HI.out.curs hB1.out)).mono ?_
    rintro e w2 ⟨a2, c2, rfl, ho2, hb2⟩
    have hc2 := fun o => hb2.cell (p := ⟨w.heap.size, o, none⟩) hz1
    have hz2 : w.heap.size < w2.heap.size := by have h := hb2.size; omega
    have hB2 : Hid (Below w.heap.size w w2) := below_tr hB1.out hb2
    have hO2 : Hid (RIn w2 (some ⟨a2, 0, none⟩) rl rl (some ⟨c2, 0, none⟩) cl cl recs curs) := own_rin ho2 HSZ.out hrl hcl
    clear hb2 ho2
    go_wp2_with fail
    refine (HSP.out _ a2 c2 hO2.out).mono ?_
    rintro e w3 ⟨rfl, hb3⟩
    have hc3 := fun o => hb3.cell (p := ⟨w.heap.size, o, none⟩) hz2
    have hz3 : w.heap.size < w3.heap.size := by have h := hb3.size; omega
    have hB3 : Hid (Below w.heap.size w w3) := below_tr hB2.out hb3
    clear hb3
    go_wp2_with fail
    refine (HTO.out _ (strs_below HI.out.strs hB3.out) (curs_below HI.out.curs hB3.out)).mono ?_
    rintro e w4 ⟨a4, c4, rfl, ho4, hb4⟩
    have hc4 := fun o => hb4.cell (p := ⟨w.heap.size, o, none⟩) hz3
    have hz4 : w.heap.size < w4.heap.size := by have h := hb4.size; omega
    have hB4 : Hid (Below w.heap.size w w4) := below_tr hB3.out hb4
    have hO4 : Hid (RIn w4 (some ⟨a4, 0, none⟩) rl rl (some ⟨c4, 0, none⟩) cl cl recs curs) := own_rin ho4 HSZ.out hrl hcl
    clear hb4 ho4
    have hB4' : Hid (Below w4.heap.size w4 (w4.alloc (ringObj cap first (some ⟨a4, 0, none⟩) rl rl (some ⟨c4, 0, none⟩) cl cl))) := (Below.refl _ _).alloc (Nat.le_refl _) _
    go_wp2_with fail
    refine (HIM.out _ a4 c4 (hO4.out.below hB4'.out) (utabs_below HT.out (below_tr hB4.out hB4'.out))).mono ?_
    rintro e w5 ⟨rfl, hb5⟩
    have hc5 := fun o => hb5.cell (p := ⟨w.heap.size, o, none⟩) (by simp; omega)
    have hd5 := fun o => hb5.cell (p := ⟨w4.heap.size, o, none⟩) (by simp)
    have hy5 : w4.heap.size < w5.heap.size := by have h := hb5.size; simp at h; omega
    have hz5 : w.heap.size < w5.heap.size := by omega
    have hO5 : Hid (RIn w5 (some ⟨a4, 0, none⟩) rl rl (some ⟨c4, 0, none⟩) cl cl recs curs) := (hO4.out.below hB4'.out).below hb5
    have hB5 : Hid (Below w.heap.size w w5) := below_tr (below_tr hB4.out hB4'.out) hb5
    clear hb5
    have hB5' : Hid (∀ wx, Below w5.heap.size w5 wx → Below w.heap.size w wx) := fun wx h => below_tr hB5.out h
    go_upto_region 10 with fail
    go_cut [26] (fun t wc => t = .bool false ∧ Hid (Below w.heap.size w wc))
    case first =>
      go_region_with (first
        | (go_at_call 8; refine (HTO.out _ (strs_below HI.out.strs hB5.out.drew) (curs_below HI.out.curs hB5.out.drew)).mono ?_; rintro e w6 ⟨a6, c6, rfl, ho6, hb6⟩; have hc6 := fun o => hb6.cell (p := ⟨w.heap.size, o, none⟩) hz5; have hd6 := fun o => hb6.cell (p := ⟨w4.heap.size, o, none⟩) hy5; have hB6 : Hid (Below w.heap.size w w6) := below_tr hB5.out.drew hb6; have hO6 : Hid (RIn w6 (some ⟨a6, 0, none⟩) rl rl (some ⟨c6, 0, none⟩) cl cl recs curs) := own_rin ho6 HSZ.out hrl hcl; have hP6 : Hid (RIn w6 (some ⟨a4, 0, none⟩) rl rl (some ⟨c4, 0, none⟩) cl cl recs curs) := hO5.out.below (below_tr ((Below.refl _ _).drew) hb6); clear hb6 ho6)
        | (go_at_call 10; refine (law_eqRing cap first (some ⟨a4, 0, none⟩) rl rl (some ⟨c4, 0, none⟩) cl cl (some ⟨a6, 0, none⟩) rl (some ⟨c6, 0, none⟩) cl recs curs _ hP6.out.strs hO6.out.strs hP6.out.curs hO6.out.curs (by omega) (by omega)).mono ?_; rintro e w7 ⟨rfl, hb7⟩; have hB7 : Hid (Below w.heap.size w w7) := below_tr hB6.out hb7; clear hb7))
      all_goals (go_wp2_with fail; go_meet; exact ⟨rfl, hB7.out⟩)
    case rest =>
    obtain ⟨rfl, hBc⟩ := hcut
    go_wp2
    go_ret
    exact ⟨rfl, hBc.out⟩
  · rw [show ringLeft 1048576 rl (strSum recs) cl = -1 by rw [ringLeft, if_neg hs]] at HZ
    clear hs
    go_enter Tryd.func4, Tryd.ntmps4
    go_wp2_with fail
    refine (HZ.out _ hL0.out).mono ?_
    rintro e w1 ⟨rfl, hb1⟩
    have hB1 : Hid (Below w.heap.size w w1) := below_tr hB0.out hb1
    clear hb1
    go_wp2
    go_ret
    exact ⟨rfl, hB1.out⟩
set_option maxHeartbeats 2000000 in
theorem law_ringRoom (cap first : Int) (ra : Option Addr) (rl rc : Nat) (ca : Option Addr) (cl cc : Nat) (recs : List ByteArray) (curs : List (Int × Int)) (w : World) (hi : LIn w ra rl ca cl recs curs) (hT : utabs w) :
    Calls Tryd.prog 5 #[ringV cap first ra rl rc ca cl cc] w fun e w' => e = .returned (.bool true) ∧ Below w.heap.size w w' := by
  have HI : Hid (LIn w ra rl ca cl recs curs) := hi
  have HT : Hid (utabs w) := hT
  have HZ : Hid _ := fun w (hi : LIn w ra rl ca cl recs curs) => law_szRing cap first ra rl rc ca cl cc recs w hi.strs hi.rle hi.sz hi.cle
  have hB0 : Hid (Below w.heap.size w (w.alloc (lringObj cap first ra rl rc ca cl cc))) := (Below.refl _ _).alloc (Nat.le_refl _) _
  have hL0 : Hid (LIn (w.alloc (lringObj cap first ra rl rc ca cl cc)) ra rl ca cl recs curs) := ⟨strs_below hi.strs hB0.out, curs_below hi.curs hB0.out, hi.sz, hi.rle, hi.cle⟩
  clear hi hT
  by_cases hs : rl + strSum recs + cl ≤ 1048576
  · rw [show ringLeft 1048576 rl (strSum recs) cl = ((1048576 - (rl + strSum recs + cl) : Nat) : Int) by rw [ringLeft, if_pos hs]] at HZ
    have hrl : rl ≤ 1048576 := by omega
    have hcl : cl ≤ 1048576 := by omega
    have HSZ : Hid (∀ s ∈ recs, s.size ≤ 1048576) := fun s h => by have := strSum_mem recs s h; omega
    obtain ⟨x, hx⟩ : ∃ x, 1048576 - (rl + strSum recs + cl) = x := ⟨_, rfl⟩
    rw [hx] at HZ
    clear hx hs
    have HTO : Hid (∀ w, Strs w ra rl recs → Curs w ca cl curs → Calls Tryd.prog 8 #[ringV cap first ra rl rc ca cl cc] w fun e w' => ∃ a c, e = .returned (ringV cap first (some ⟨a, 0, none⟩) rl rl (some ⟨c, 0, none⟩) cl cl) ∧ OwnRing w' w.heap.size (some ⟨a, 0, none⟩) rl rl (some ⟨c, 0, none⟩) cl cl (recs.map Value.string) (curCells curs) ∧ Below w.heap.size w w') := fun w h1 h2 => law_toRing cap first ra rl rc ca cl cc recs curs w h1 h2 hrl hcl
    have HSP : Hid (∀ w a c, RIn w (some ⟨a, 0, none⟩) rl rl (some ⟨c, 0, none⟩) cl cl recs curs → Calls Tryd.prog 13 #[ringV cap first (some ⟨a, 0, none⟩) rl rl (some ⟨c, 0, none⟩) cl cl] w fun e w' => e = .returned (.int .i64 (roomOf cap first recs curs)) ∧ Below w.heap.size w w') := fun w a c h => spec_ringRoom recs curs w h
    have HIM : Hid (∀ w a c, RIn w (some ⟨a, 0, none⟩) rl rl (some ⟨c, 0, none⟩) cl cl recs curs → utabs w → Calls Tryd.prog 14 #[ringV cap first (some ⟨a, 0, none⟩) rl rl (some ⟨c, 0, none⟩) cl cl] w fun e w' => e = .returned (.int .i64 (roomOf cap first recs curs)) ∧ Below w.heap.size w w') := fun w a c h hT => impl_ringRoom recs curs w h hT
    obtain ⟨R, hR⟩ : ∃ R, roomOf cap first recs curs = R := ⟨_, rfl⟩
    rw [hR] at HSP HIM
    have hRR : (R != R) = false := by simp
    clear hR
    go_enter Tryd.func5, Tryd.ntmps5
    go_wp2_with fail
    refine (HZ.out _ hL0.out).mono ?_
    rintro e w1 ⟨rfl, hb1⟩
    have hc1 := fun o => hb1.cell (p := ⟨w.heap.size, o, none⟩) (by simp)
    have hz1 : w.heap.size < w1.heap.size := by have h := hb1.size; simp at h; omega
    have hB1 : Hid (Below w.heap.size w w1) := below_tr hB0.out hb1
    clear hb1
    go_wp2_with fail
    refine (HTO.out _ (strs_below HI.out.strs hB1.out) (curs_below HI.out.curs hB1.out)).mono ?_
    rintro e w2 ⟨a2, c2, rfl, ho2, hb2⟩
    have hc2 := fun o => hb2.cell (p := ⟨w.heap.size, o, none⟩) hz1
    have hz2 : w.heap.size < w2.heap.size := by have h := hb2.size; omega
    have hB2 : Hid (Below w.heap.size w w2) := below_tr hB1.out hb2
    have hO2 : Hid (RIn w2 (some ⟨a2, 0, none⟩) rl rl (some ⟨c2, 0, none⟩) cl cl recs curs) := own_rin ho2 HSZ.out hrl hcl
    clear hb2 ho2
    go_wp2_with fail
    refine (HSP.out _ a2 c2 hO2.out).mono ?_
    rintro e w3 ⟨rfl, hb3⟩
    have hc3 := fun o => hb3.cell (p := ⟨w.heap.size, o, none⟩) hz2
    have hz3 : w.heap.size < w3.heap.size := by have h := hb3.size; omega
    have hB3 : Hid (Below w.heap.size w w3) := below_tr hB2.out hb3
    clear hb3
    go_wp2_with fail
    refine (HTO.out _ (strs_below HI.out.strs hB3.out) (curs_below HI.out.curs hB3.out)).mono ?_
    rintro e w4 ⟨a4, c4, rfl, ho4, hb4⟩
    have hc4 := fun o => hb4.cell (p := ⟨w.heap.size, o, none⟩) hz3
    have hz4 : w.heap.size < w4.heap.size := by have h := hb4.size; omega
    have hB4 : Hid (Below w.heap.size w w4) := below_tr hB3.out hb4
    have hO4 : Hid (RIn w4 (some ⟨a4, 0, none⟩) rl rl (some ⟨c4, 0, none⟩) cl cl recs curs) := own_rin ho4 HSZ.out hrl hcl
    clear hb4 ho4
    have hB4' : Hid (Below w4.heap.size w4 (w4.alloc (ringObj cap first (some ⟨a4, 0, none⟩) rl rl (some ⟨c4, 0, none⟩) cl cl))) := (Below.refl _ _).alloc (Nat.le_refl _) _
    go_wp2_with fail
    refine (HIM.out _ a4 c4 (hO4.out.below hB4'.out) (utabs_below HT.out (below_tr hB4.out hB4'.out))).mono ?_
    rintro e w5 ⟨rfl, hb5⟩
    have hc5 := fun o => hb5.cell (p := ⟨w.heap.size, o, none⟩) (by simp; omega)
    have hd5 := fun o => hb5.cell (p := ⟨w4.heap.size, o, none⟩) (by simp)
    have hy5 : w4.heap.size < w5.heap.size := by have h := hb5.size; simp at h; omega
    have hz5 : w.heap.size < w5.heap.size := by omega
    have hO5 : Hid (RIn w5 (some ⟨a4, 0, none⟩) rl rl (some ⟨c4, 0, none⟩) cl cl recs curs) := (hO4.out.below hB4'.out).below hb5
    have hB5 : Hid (Below w.heap.size w w5) := below_tr (below_tr hB4.out hB4'.out) hb5
    clear hb5
    have hB5' : Hid (∀ wx, Below w5.heap.size w5 wx → Below w.heap.size w wx) := fun wx h => below_tr hB5.out h
    go_upto_region 10 with fail
    go_cut [26] (fun t wc => t = .bool false ∧ Hid (Below w.heap.size w wc))
    case first =>
      go_region_with (first
        | (go_at_call 8; refine (HTO.out _ (strs_below HI.out.strs hB5.out.drew) (curs_below HI.out.curs hB5.out.drew)).mono ?_; rintro e w6 ⟨a6, c6, rfl, ho6, hb6⟩; have hc6 := fun o => hb6.cell (p := ⟨w.heap.size, o, none⟩) hz5; have hd6 := fun o => hb6.cell (p := ⟨w4.heap.size, o, none⟩) hy5; have hB6 : Hid (Below w.heap.size w w6) := below_tr hB5.out.drew hb6; have hO6 : Hid (RIn w6 (some ⟨a6, 0, none⟩) rl rl (some ⟨c6, 0, none⟩) cl cl recs curs) := own_rin ho6 HSZ.out hrl hcl; have hP6 : Hid (RIn w6 (some ⟨a4, 0, none⟩) rl rl (some ⟨c4, 0, none⟩) cl cl recs curs) := hO5.out.below (below_tr ((Below.refl _ _).drew) hb6); clear hb6 ho6)
        | (go_at_call 10; refine (law_eqRing cap first (some ⟨a4, 0, none⟩) rl rl (some ⟨c4, 0, none⟩) cl cl (some ⟨a6, 0, none⟩) rl (some ⟨c6, 0, none⟩) cl recs curs _ hP6.out.strs hO6.out.strs hP6.out.curs hO6.out.curs (by omega) (by omega)).mono ?_; rintro e w7 ⟨rfl, hb7⟩; have hB7 : Hid (Below w.heap.size w w7) := below_tr hB6.out hb7; clear hb7))
      all_goals (go_wp2_with fail; go_meet; exact ⟨rfl, hB7.out⟩)
    case rest =>
    obtain ⟨rfl, hBc⟩ := hcut
    go_wp2
    go_ret
    exact ⟨rfl, hBc.out⟩
  · rw [show ringLeft 1048576 rl (strSum recs) cl = -1 by rw [ringLeft, if_neg hs]] at HZ
    clear hs
    go_enter Tryd.func5, Tryd.ntmps5
    go_wp2_with fail
    refine (HZ.out _ hL0.out).mono ?_
    rintro e w1 ⟨rfl, hb1⟩
    have hB1 : Hid (Below w.heap.size w w1) := below_tr hB0.out hb1
    clear hb1
    go_wp2
    go_ret
    exact ⟨rfl, hB1.out⟩
end Go.Proofs.YtblkbpgnhkjaaaaDoor
