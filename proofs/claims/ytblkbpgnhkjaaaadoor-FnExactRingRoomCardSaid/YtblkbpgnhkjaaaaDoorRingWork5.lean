/- A ring at work: whether its cursors are right. -/
import Derived.Test.YtblkbpgnhkjaaaaDoorRingWork4
namespace Go.Proofs.YtblkbpgnhkjaaaaDoor
open Go.RowKit
variable {cap first : Int} {ra ca : Option Addr} {rl rc cl cc : Nat}

theorem impl_end_q (b : Nat) (d st l : Int) (w : World) (hw : Work w b cap first ra rl rc ca cl cc d st l) (h : 0 ≤ first ∧ first ≤ 1000000) (hl : rl ≤ 1048576) :
    Calls Tryd.prog 29 #[.pointer (some ⟨b, 0, none⟩)] w fun e w' => e = .returned (.int .i64 (first + (rl : Int))) ∧ ∃ m, w' = w.drewN m := by
  obtain ⟨c0, c1, c2, c3, c4, c5, c6, c7⟩ := work_cells hw
  go_enter Tryd.func29, Tryd.ntmps29
  go_wp2
  go_region
  all_goals go_wp2
  all_goals go_ret
  all_goals exact ⟨rfl, 1, rfl⟩
def curIn (fin : Int) (c : Int × Int) : Bool := decide (1 ≤ c.1 ∧ c.1 ≤ 9) && decide (c.2 ≤ fin)
def curRight (first fin : Int) (curs : List (Int × Int)) : Bool := curs.all (curIn fin) && risesB curs && decide (curLeast first curs = first)
def inTo (fin : Int) (l : List (Int × Int)) (k : Nat) : Prop := ∀ j, j < k → ∀ (h : j < l.length), curIn fin l[j] = true
theorem in_no {first fin : Int} {l : List (Int × Int)} {k : Nat} (hk : k < l.length) (h : curIn fin l[k] = false) : curRight first fin l = false := by
  have e : l.all (curIn fin) = false := by
    rw [List.all_eq_false]
    exact ⟨l[k], List.getElem_mem hk, by simp [h]⟩
  simp [curRight, e]
theorem in_yes {first fin : Int} {l : List (Int × Int)} {k : Nat} (hk : l.length ≤ k) (h : inTo fin l k) : curRight first fin l = (risesB l && decide (curLeast first l = first)) := by
  have e : l.all (curIn fin) = true := by
    rw [List.all_eq_true]
    intro x hx
    obtain ⟨j, hj, rfl⟩ := List.getElem_of_mem hx
    exact h j (by omega) hj
  simp [curRight, e]
/-- What is left of a ring at work: nothing old has turned but for its own block; the least place is known, or not yet. -/
def Still (w w' : World) (b : Nat) (cap first : Int) (ra : Option Addr) (rl rc : Nat) (ca : Option Addr) (cl cc : Nat) (curs : List (Int × Int)) : Prop :=
  w.grownBy w' (some b) ∧ ∃ d l, Work w' b cap first ra rl rc ca cl cc d 0 l ∧ Known first curs d l
set_option maxRecDepth 100000 in
set_option maxHeartbeats 4000000 in
theorem impl_cursorsRight (b : Nat) (d l : Int) (curs : List (Int × Int)) (w : World) (hw : Work w b cap first ra rl rc ca cl cc d 0 l) (hk : Known first curs d l) (hc : Curs w ca cl curs) (ho : Off b ca) (hcl : cl ≤ 1048576) (h : 0 ≤ first ∧ first ≤ 1000000) (hl : rl ≤ 1048576) :
    Calls Tryd.prog 40 #[.pointer (some ⟨b, 0, none⟩)] w fun e w' => e = .returned (.bool (curRight first (first + (rl : Int)) curs)) ∧ Still w w' b cap first ra rl rc ca cl cc curs := by
  obtain ⟨c0, c1, c2, c3, c4, c5, c6, c7⟩ := work_cells hw
  have HW : Hid (Work w b cap first ra rl rc ca cl cc d 0 l) := hw
  have HC : Hid (Curs w ca cl curs) := hc
  have HK : Hid (Known first curs d l) := hk
  have HL : Hid (curs.length = cl) := hc.1
  clear hw hc hk
  go_enter Tryd.func40, Tryd.ntmps40
  go_wp2
  go_loopw [11] (fun i wr => ∃ k : Nat, k ≤ cl ∧ i = .int .i64 k ∧ Hid (inTo (first + (rl : Int)) curs k) ∧ Hid (Below w.heap.size w wr)) (fun i _ => cl - (intOf i).toNat)
  case atStart => exact ⟨0, by omega, rfl, fun j hj => by omega, Below.refl _ _⟩
  case round =>
    obtain ⟨k, hkn, rfl, hr, hw⟩ := hrel
    have HWr : Hid (Work wr b cap first ra rl rc ca cl cc d 0 l) := HW.out.below hw.out
    by_cases hlt : k < cl
    · obtain ⟨bc, off, rfl, hj, g1, a1⟩ := curs_two HC.out hw.out (k := k) hlt
      have hN : curIn (first + (rl : Int)) curs[k] = false → Hid (curRight first (first + (rl : Int)) curs = false) := fun h => in_no hj h
      have hY : curIn (first + (rl : Int)) curs[k] = true → Hid (inTo (first + (rl : Int)) curs (k + 1)) := fun h i hi h1 => by
        by_cases hik : i = k
        · subst hik; exact h
        · exact hr.out i (by omega) h1
      obtain ⟨G1, A1, e1⟩ : ∃ G A, curs[k] = (G, A) := ⟨_, _, rfl⟩
      rw [e1] at hY hN g1 a1
      have hbw : bc < wr.heap.size := World.block_lt_of_cell? wr _ g1
      clear e1 hr hj
      by_cases hG : 1 ≤ G1 ∧ G1 ≤ 9
      · by_cases hA : A1 ≤ first + (rl : Int)
        · have hE := hY (by simp [curIn, hG, hA])
          clear hY hN
          have HGR : Hid _ := fun w => impl_group G1 w
          rw [decide_eq_true hG] at HGR
          go_wp2
          go_quiet (first | (go_at_call 50; exact Calls.quiet_of_same (HGR.out _)) | (go_at_call 29; exact Calls.quiet_of (impl_end_q b d 0 l _ (HWr.out.below (below_dn ((Below.refl _ _).alloc (Nat.le_refl _) _) _)) h hl)))
          go_wp2
          exact ⟨⟨k + 1, by omega, by go_num, hE.out, below_dn (hw.out.alloc hw.out.size _) _⟩, by simp [intOf]; omega⟩
        · have hE := hN (by simp [curIn, hA])
          clear hY hN
          have HGR : Hid _ := fun w => impl_group G1 w
          rw [decide_eq_true hG] at HGR
          go_wp2
          go_quiet (first | (go_at_call 50; exact Calls.quiet_of_same (HGR.out _)) | (go_at_call 29; exact Calls.quiet_of (impl_end_q b d 0 l _ (HWr.out.below (below_dn ((Below.refl _ _).alloc (Nat.le_refl _) _) _)) h hl)))
          go_wp2
          go_ret
          exact ⟨ret_bool hE.out.symm, grown_of_below (below_dn (hw.out.alloc hw.out.size _) _) _, d, l, HWr.out.below (below_dn ((Below.refl _ _).alloc (Nat.le_refl _) _) _), HK.out⟩
      · have hE := hN (by simp [curIn, hG])
        clear hY hN
        have HGR : Hid _ := fun w => impl_group G1 w
        rw [decide_eq_false hG] at HGR
        clear hG
        go_wp2
        go_quiet (first | (go_at_call 50; exact Calls.quiet_of_same (HGR.out _)) | (go_at_call 29; exact Calls.quiet_of (impl_end_q b d 0 l _ (HWr.out.below (below_dn ((Below.refl _ _).alloc (Nat.le_refl _) _) _)) h hl)))
        go_wp2
        go_ret
        exact ⟨ret_bool hE.out.symm, grown_of_below (below_dn (hw.out.alloc hw.out.size _) _) _, d, l, HWr.out.below (below_dn ((Below.refl _ _).alloc (Nat.le_refl _) _) _), HK.out⟩
    · have hE : Hid (curRight first (first + (rl : Int)) curs = (risesB curs && decide (curLeast first curs = first))) := in_yes (by rw [HL.out]; omega) hr.out
      clear hr
      have HI : Hid _ := fun w hc => impl_rising ca cl cc curs w hc hcl
      have HM : Hid _ := fun w d l hw hk hc => impl_least (cap := cap) (first := first) (ra := ra) (rl := rl) (rc := rc) (ca := ca) (cl := cl) (cc := cc) b d l curs w hw hk hc ho hcl
      obtain ⟨R, hR⟩ : ∃ R, risesB curs = R := ⟨_, rfl⟩
      obtain ⟨M, hM⟩ : ∃ M, curLeast first curs = M := ⟨_, rfl⟩
      rw [hR] at HI hE
      rw [hM] at HM hE
      have HMM : Hid (curLeast first curs = M) := hM
      clear hR hM
      have hwb := HWr.out.lt
      obtain ⟨d0, d1, d2, d3, d4, d5, d6, d7⟩ := work_cells HWr.out
      have HCr : Hid (Curs wr ca cl curs) := curs_below HC.out hw.out
      have hwp : Hid (w.grownBy wr (some b)) := grown_of_below hw.out _
      clear c0 c1 c2 c3 c4 c5 c6 c7
      cases R
      · have hE' : Hid (curRight first (first + (rl : Int)) curs = false) := hE.out.trans (by simp)
        clear hE
        go_upto_region 7 with fail
        go_cut [2] (fun t wc => t = .bool false ∧ Hid (Still w wc b cap first ra rl rc ca cl cc curs))
        case first =>
          first | (go_region_with (go_at_call 51; refine (HI.out _ (by first | exact HCr.out | exact curs_below HCr.out ((Below.refl _ _).drew))).mono ?_; rintro e w1 ⟨rfl, hb1⟩; have d1 := (hb1.cell (p := ⟨b, 1, none⟩) hwb).trans d1; have d3 := (hb1.cell (p := ⟨b, 3, none⟩) hwb).trans d3; have HS : Hid (Still w w1 b cap first ra rl rc ca cl cc curs) := ⟨hwp.out.trans (grown_of_below (below_tr ((Below.refl _ _).drew) hb1) _), d, l, HWr.out.below (below_tr ((Below.refl _ _).drew) hb1), HK.out⟩; clear hb1)) | fail
          all_goals (go_wp2_with fail; go_meet; exact ⟨rfl, HS⟩)
        case rest =>
        obtain ⟨rfl, hS⟩ := hcut
        go_wp2
        go_ret
        exact ⟨ret_bool hE'.out.symm, hS.out⟩
      · have hE' : Hid (curRight first (first + (rl : Int)) curs = decide (M = first)) := hE.out.trans (by simp)
        clear hE
        go_upto_region 7 with fail
        go_cut [2] (fun t wc => t = .bool (M == first) ∧ Hid (Still w wc b cap first ra rl rc ca cl cc curs))
        case first =>
          first | (go_region_with (first
            | (go_at_call 51; refine (HI.out _ (by first | exact HCr.out | exact curs_below HCr.out ((Below.refl _ _).drew))).mono ?_; rintro e w1 ⟨rfl, hb1⟩; have d1 := (hb1.cell (p := ⟨b, 1, none⟩) hwb).trans d1; have hwp : Hid (w.grownBy w1 (some b)) := hwp.out.trans (grown_of_below (below_tr ((Below.refl _ _).drew) hb1) _); have HCr : Hid (Curs w1 ca cl curs) := curs_below HCr.out (below_tr ((Below.refl _ _).drew) hb1); have HWr : Hid (Work w1 b cap first ra rl rc ca cl cc d 0 l) := HWr.out.below (below_tr ((Below.refl _ _).drew) hb1); clear hb1)
            | (go_at_call 53; refine (HM.out _ d l HWr.out HK.out HCr.out).mono ?_; rintro e w2 ⟨rfl, hW2, hg2⟩; have d1 := (work_cells hW2).2.1; have HS : Hid (Still w w2 b cap first ra rl rc ca cl cc curs) := ⟨hwp.out.trans hg2, 1, M, hW2, .inr ⟨rfl, HMM.out.symm⟩⟩; clear hW2 hg2))) | fail
          all_goals (go_wp2_with fail; go_meet; exact ⟨rfl, HS⟩)
        case rest =>
        obtain ⟨rfl, hS⟩ := hcut
        go_wp2
        go_ret
        exact ⟨ret_bool (by rw [hE'.out]; rfl), hS.out⟩
end Go.Proofs.YtblkbpgnhkjaaaaDoor
