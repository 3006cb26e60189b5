/- RingAt of the specification, whole. -/
import Derived.Test.YtopbfjdjlgecpaaGreatDoorSpecAt
import Derived.Test.YtopbfjdjlgecpaaGreatDoorLawRingOut0
import Derived.Deep.DeepCutAuto
import Derived.Deep.DrawnRows
namespace Go.Proofs.YtopbfjdjlgecpaaGreatDoor
open Go.RowKit
attribute [local go_sem ↓] Go.wp_at_zero Go.wp_at_succ
variable {cap first : Int} {ra ca : Option Addr} {rl rc cl cc : Nat}
set_option maxRecDepth 100000 in
set_option maxHeartbeats 4000000 in
theorem spec_ringAt (recs : List ByteArray) (curs : List (Int × Int)) (at' : Int) (w : World) (hi : RFit w ra rl rc ca cl cc recs curs) :
    Calls Tryz.prog 18 #[ringV cap first ra rl rc ca cl cc, .int .i64 at'] w fun e w' => Answers w w' e (atR cap first recs curs at') := by
  have HI : Hid (RFit w ra rl rc ca cl cc recs curs) := hi
  have hcl : cl ≤ 1048576 := hi.cle
  have hrl : rl ≤ 1048576 := hi.rle
  have HL : Hid (curs.length = cl) := hi.cur.curs.1
  have HRL : Hid (recs.length = rl) := hi.str.strs.1
  have HSR : Hid _ := fun w (hi : RFit w ra rl rc ca cl cc recs curs) => spec_ringRight cap first ra rl rc ca cl cc recs curs w hi.str.strs hi.cur.curs hi.rin.sz' hi.rle hi.cle
  clear hi
  have HB0 : Hid (Below w.heap.size w (W2 w cap first ra rl rc ca cl cc)) := w2_below ..
  obtain ⟨R, hR⟩ : ∃ R, ringRightB cap first recs curs = R := ⟨_, rfl⟩
  have HF : Hid (atR cap first recs curs at' = if R = false then RO.ill 1 else if ¬ (first ≤ at' ∧ at' ≤ first + (rl : Int) - 1) then RO.ill 8 else ⟨cap, first, recs, curs, (recAt recs (at' - first).toNat).1, (recAt recs (at' - first).toNat).2.1, (recAt recs (at' - first).toNat).2.2.1, 0⟩) := by rw [← hR, ← HRL.out]; rfl
  rw [hR] at HSR
  have HRR : Hid (R = true → (0 ≤ first ∧ first ≤ 1000000)) := fun h => (right_first (hR.trans h)).1
  clear hR
  go_enter Tryz.func18, Tryz.ntmps18
  go_wp2_with fail
  refine (HSR.out _ (HI.out.below HB0.out)).mono ?_
  rintro e w2 ⟨rfl, hb2⟩
  have HB2 : Hid (Below w.heap.size w w2) := below_tr HB0.out hb2
  have HW2 : Hid (Below (W2 w cap first ra rl rc ca cl cc).heap.size (W2 w cap first ra rl rc ca cl cc) w2) := hb2
  clear hb2 HSR
  have hc2 := fun o => HW2.out.cell (p := ⟨w.heap.size, o, none⟩) (by simp only [World.size_alloc]; omega)
  cases R
  · have hE : Hid (atR cap first recs curs at' = RO.ill 1) := HF.out.trans (if_pos rfl)
    clear HF
    go_wp2_with fail
    refine (spec_ill 1 _).mono ?_
    rintro e w3 ⟨rfl, hb3⟩
    have HB3 : Hid (Below w.heap.size w w3) := below_tr HB2.out hb3
    have HW3 : Hid (Below (W2 w cap first ra rl rc ca cl cc).heap.size (W2 w cap first ra rl rc ca cl cc) w3) := below_tr HW2.out hb3
    clear hb3 hc2
    have hc3 := fun o => HW3.out.cell (p := ⟨w.heap.size + 1, o, none⟩) (by simp)
    have hf3 := fun o => HW3.out.frozen (p := ⟨w.heap.size + 1, o, none⟩) (by simp)
    go_wp2
    refine bodyPost_ret (v := ringIll 1) (by simp [results, Tryz.results18, go_sem, hc3]) rfl ?_
    rw [hE.out]
    exact ans_ill 1 HB3.out _ (by omega) _ _ _ _ _ _ _ _
  · have HFT := HRR.out rfl
    have HF2 : Hid (atR cap first recs curs at' = if ¬ (first ≤ at' ∧ at' ≤ first + (rl : Int) - 1) then RO.ill 8 else ⟨cap, first, recs, curs, (recAt recs (at' - first).toNat).1, (recAt recs (at' - first).toNat).2.1, (recAt recs (at' - first).toNat).2.2.1, 0⟩) := HF.out.trans (if_neg (by simp))
    clear HF HRR
    have HIS : Hid _ := fun w => spec_is at' first (first + (rl : Int) - 1) w
    obtain ⟨T, hT⟩ : ∃ T, decide (first ≤ at' ∧ at' ≤ first + (rl : Int) - 1) = T := ⟨_, rfl⟩
    rw [hT] at HIS
    have HTD : Hid (decide (first ≤ at' ∧ at' ≤ first + (rl : Int) - 1) = T) := hT
    clear hT
    have hW : IntKind.i64.wrap (first + (rl : Int) - 1) = first + (rl : Int) - 1 := i64_wrap_in _ (by omega) (by omega)
    have HWc : Hid (Below (W2 w cap first ra rl rc ca cl cc).heap.size (W2 w cap first ra rl rc ca cl cc) w2.drew) := HW2.out.drew
    go_upto_region 3 with fail
    go_cut [16] (fun s16 wc => s16 = .bool (!T) ∧ Hid (Below (W2 w cap first ra rl rc ca cl cc).heap.size (W2 w cap first ra rl rc ca cl cc) wc))
    case first =>
      first | (go_region_with (first
        | (go_at_call 63; refine (spec_end cap first ra rl rc ca cl cc _ HFT hrl).mono ?_; rintro e w3 ⟨rfl, hb3⟩; have HWc : Hid (Below (W2 w cap first ra rl rc ca cl cc).heap.size (W2 w cap first ra rl rc ca cl cc) w3) := below_tr HWc.out hb3; have hc3 := fun o => HWc.out.cell (p := ⟨w.heap.size, o, none⟩) (by simp only [World.size_alloc]; omega); clear hb3)
        | (go_at_call 62; refine (HIS.out _).mono ?_; rintro e w4 ⟨rfl, hw4⟩; rw [hw4]; clear hw4 w4))) | fail
      all_goals (go_wp2_with fail; go_meet; exact ⟨rfl, HWc⟩)
    case rest =>
    obtain ⟨rfl, HW3⟩ := hcut
    clear HWc hW HIS hc2
    have HB3 : Hid (Below w.heap.size w wc) := below_tr HB0.out HW3.out
    cases T
    · have hE : Hid (atR cap first recs curs at' = RO.ill 8) := HF2.out.trans (if_pos (of_decide_eq_false HTD.out))
      clear HF2
      go_wp2_with fail
      refine (spec_ill 8 _).mono ?_
      rintro e w4 ⟨rfl, hb4⟩
      have HB4 : Hid (Below w.heap.size w w4) := below_tr HB3.out hb4
      have HW4 : Hid (Below (W2 w cap first ra rl rc ca cl cc).heap.size (W2 w cap first ra rl rc ca cl cc) w4) := below_tr HW3.out hb4
      clear hb4
      have hc4 := fun o => HW4.out.cell (p := ⟨w.heap.size + 1, o, none⟩) (by simp)
      have hf4 := fun o => HW4.out.frozen (p := ⟨w.heap.size + 1, o, none⟩) (by simp)
      go_wp2
      refine bodyPost_ret (v := ringIll 8) (by simp [results, Tryz.results18, go_sem, hc4]) rfl ?_
      rw [hE.out]
      exact ans_ill 8 HB4.out _ (by omega) _ _ _ _ _ _ _ _
    · have hin := of_decide_eq_true HTD.out
      obtain ⟨K, hK⟩ : ∃ K : Nat, at' = first + (K : Int) := ⟨(at' - first).toNat, by omega⟩
      subst hK
      have hKr : K < rl := by omega
      have hE : Hid (atR cap first recs curs (first + (K : Int)) = ⟨cap, first, recs, curs, (recAt recs K).1, (recAt recs K).2.1, (recAt recs K).2.2.1, 0⟩) := by
        have h := HF2.out.trans (if_neg (by simp only [Decidable.not_not]; exact hin))
        rw [show (first + (K : Int) - first).toNat = K by omega] at h
        exact h
      clear HF2 hin HTD
      have HAT0 : Hid (∀ w, StrIn w ra rl rc recs → Calls Tryz.prog 65 #[ringV cap first ra rl rc ca cl cc, .int .i64 (first + (K : Int))] w fun e w' => e = .returned (recV (recAt recs K).1 (recAt recs K).2.1 (recAt recs K).2.2.1) ∧ Below w.heap.size w w') := fun w h => spec_lat (cap := cap) (first := first) (ca := ca) (cl := cl) (cc := cc) recs K w h HI.out.rin.sz' hKr hrl
      obtain ⟨R, hR⟩ : ∃ R, recAt recs K = R := ⟨_, rfl⟩
      rw [hR] at HAT0 hE
      clear hR
      obtain ⟨ra1, ra2, ra3, ra4⟩ := R
      have HAT : Hid (∀ w, StrIn w ra rl rc recs → Calls Tryz.prog 65 #[ringV cap first ra rl rc ca cl cc, .int .i64 (first + (K : Int))] w fun e w' => e = .returned (recV ra1 ra2 ra3) ∧ Below w.heap.size w w') := HAT0.out
      clear HAT0
      have hc3 := fun o => HW3.out.cell (p := ⟨w.heap.size, o, none⟩) (by simp only [World.size_alloc]; omega)
      have HWc : Hid (Below (W2 w cap first ra rl rc ca cl cc).heap.size (W2 w cap first ra rl rc ca cl cc) wc.drew) := HW3.out.drew
      have HBc : Hid (Below w.heap.size w wc.drew) := HB3.out.drew
      have hzu : w.heap.size + 1 < (W2 w cap first ra rl rc ca cl cc).heap.size := by simp
      go_upto_region 5 with fail
      go_cut [] (fun wd => ∃ (a : Option Addr) (q : Nat) (c : Option Addr) (p : Nat), Hid (Answers w wd (.returned (ringOutV cap first a rl q c cl p ra1 ra2 ra3 0)) (RO.mk cap first recs curs ra1 ra2 ra3 0)) ∧ Hid (wd.heap[w.heap.size + 1]? = some (.cells #[.int .i64 cap, .int .i64 first, .slice a rl q, .slice c cl p, .int .i64 ra1, .int .i64 ra2, .string ra3, .int .i64 0] 32 (0, 0))))
      case first =>
        first | (go_region_with (first
          | (go_at_call 64; refine (spec_copy recs curs _ (HI.out.str.below HBc.out) (HI.out.cur.below HBc.out) (by omega) (by omega)).mono ?_; rintro e w5 ⟨a5, q5, c5, p5, rfl, ho5, hb5⟩; have HO5 : Hid (OwnRing w5 (W2 w cap first ra rl rc ca cl cc).heap.size a5 rl q5 c5 cl p5 (recs.map Value.string) (curCells curs)) := ⟨ho5.1.mono HWc.out.size, ho5.2.mono HWc.out.size⟩; have HWc : Hid (Below (W2 w cap first ra rl rc ca cl cc).heap.size (W2 w cap first ra rl rc ca cl cc) w5) := below_tr HWc.out hb5; have HBc : Hid (Below w.heap.size w w5) := below_tr HBc.out hb5; have hc5 := fun o => HWc.out.cell (p := ⟨w.heap.size, o, none⟩) (by simp only [World.size_alloc]; omega); have hd5 := fun o => HWc.out.cell (p := ⟨w.heap.size + 1, o, none⟩) (by simp); have hf5 := fun o => HWc.out.frozen (p := ⟨w.heap.size + 1, o, none⟩) (by simp); clear hb5 ho5)
          | (go_at_call 65; refine (HAT.out _ (HI.out.str.below HBc.out)).mono ?_; rintro e w6 ⟨rfl, hb6⟩; ((have HO5 : Hid (OwnRing w6 (W2 w cap first ra rl rc ca cl cc).heap.size a5 rl q5 c5 cl p5 (recs.map Value.string) (curCells curs)) := HO5.out.below hb6)); have HWc : Hid (Below (W2 w cap first ra rl rc ca cl cc).heap.size (W2 w cap first ra rl rc ca cl cc) w6) := below_tr HWc.out hb6; have HBc : Hid (Below w.heap.size w w6) := below_tr HBc.out hb6; have hc5 := fun o => HWc.out.cell (p := ⟨w.heap.size, o, none⟩) (by simp only [World.size_alloc]; omega); have hd5 := fun o => HWc.out.cell (p := ⟨w.heap.size + 1, o, none⟩) (by simp); have hf5 := fun o => HWc.out.frozen (p := ⟨w.heap.size + 1, o, none⟩) (by simp); clear hb6))) | fail
        all_goals
          go_wp2_with fail
          go_meet
          exact ⟨a5, q5, c5, p5, at_ans HO5.out HBc.out HRL.out HL.out hzu _ _ _ _ _ _ _ _, at_box ((HWc.out.block _ hzu).trans (w2_out ..))⟩
      case rest =>
      obtain ⟨a, q, c, p, hAns, hX⟩ := hcut
      have hx := fun o => cell_of_block0 hX.out o
      go_wp2
      refine bodyPost_ret (v := ringOutV cap first a rl q c cl p ra1 ra2 ra3 0) (by simp [results, Tryz.results18, go_sem, hx]) rfl ?_
      rw [hE.out]
      exact hAns.out
end Go.Proofs.YtopbfjdjlgecpaaGreatDoor
