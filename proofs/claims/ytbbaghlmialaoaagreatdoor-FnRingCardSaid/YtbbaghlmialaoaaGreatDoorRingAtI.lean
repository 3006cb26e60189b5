import Derived.Test.YtbbaghlmialaoaaGreatDoorSpecLeave
import Derived.Test.YtbbaghlmialaoaaGreatDoorRecSpec4
import Derived.Deep.DeepCutAuto
import Derived.Test.YtbbaghlmialaoaaGreatDoorLawRingAsk
import Derived.Deep.DrawnRows
import Derived.Test.YtbbaghlmialaoaaGreatDoorLawRingOut0
import Derived.Test.YtbbaghlmialaoaaGreatDoorLawRec
import Derived.Test.YtbbaghlmialaoaaGreatDoorRingAsk
/- RingAt of the specification. -/
namespace Go.Proofs.YtbbaghlmialaoaaGreatDoor
open Go.RowKit
variable {cap first : Int} {ra ca : Option Addr} {rl rc cl cc : Nat}

/-- The record that is read of place K. -/
def recAt (recs : List ByteArray) (K : Nat) : Int × Int × ByteArray × Nat := readRes (recs.getD K ⟨#[]⟩)
def atR (cap first : Int) (recs : List ByteArray) (curs : List (Int × Int)) (at' : Int) : RO :=
  if ringRightB cap first recs curs = false then RO.ill 1 else if ¬ (first ≤ at' ∧ at' ≤ first + (recs.length : Int) - 1) then RO.ill 8
  else ⟨cap, first, recs, curs, (recAt recs (at' - first).toNat).1, (recAt recs (at' - first).toNat).2.1, (recAt recs (at' - first).toNat).2.2.1, 0⟩
set_option maxRecDepth 100000 in
set_option maxHeartbeats 1000000 in
theorem spec_lat (recs : List ByteArray) (K : Nat) (w : World) (hr : StrIn w ra rl rc recs) (hs : ∀ s ∈ recs, s.size ≤ maxLen) (hK : K < rl) (hrl : rl ≤ 1048576) :
    Calls Tryz.prog 66 #[ringV cap first ra rl rc ca cl cc, .int .i64 (first + (K : Int))] w fun e w' => e = .returned (recV (recAt recs K).1 (recAt recs K).2.1 (recAt recs K).2.2.1) ∧ Below w.heap.size w w' := by
  have hKl : K < recs.length := by rw [hr.strs.1]; exact hK
  have hB0 : Below w.heap.size w ((w.alloc (ringObj cap first ra rl rc ca cl cc)).alloc (.cells #[.int .i64 0, .int .i64 0, .string ⟨#[]⟩] 28)) := ((Below.refl _ _).alloc (Nat.le_refl _) _).alloc (by simp) _
  obtain ⟨b, off, e1, hc⟩ := (strs_below hr.strs hB0).2 K hKl
  have hg : recs.getD K ⟨#[]⟩ = recs[K] := by rw [List.getD_eq_getElem?_getD, List.getElem?_eq_getElem hKl]; rfl
  have HRD : Hid _ := fun w => spec_recRead recs[K] w (hs _ (List.getElem_mem hKl))
  have hra : recAt recs K = readRes recs[K] := by unfold recAt; rw [hg]
  rw [hra]
  clear hg hra
  obtain ⟨V, hV⟩ : ∃ V, recs[K] = V := ⟨_, rfl⟩
  rw [hV] at hc HRD ⊢
  clear hV hKl hs hr
  obtain ⟨R, hR⟩ : ∃ R, readRes V = R := ⟨_, rfl⟩
  rw [hR] at HRD ⊢
  clear hR
  obtain ⟨r1, r2, r3, r4⟩ := R
  have HRE : Hid (∀ w, Calls Tryz.prog 75 #[.string V] w fun e w' => e = .returned (.agg #[.int .i64 r1, .int .i64 r2, .string r3, .int .i64 (r4 : Int)]) ∧ Below w.heap.size w w') := HRD.out
  clear HRD
  subst e1
  have hsub : first + (K : Int) - first = (K : Int) := by omega
  have hfd := field_rec r1 r2 r3 (r4 : Int)
  have hKi : (K : Int) < (rl : Int) := by omega
  have HB0 : Hid _ := hB0
  clear hB0
  go_enter Tryz.func66, Tryz.ntmps66
  go_wp2_with fail
  refine (HRE.out _).mono ?_
  rintro e w1 ⟨rfl, hb1⟩
  have hc1 := fun o => hb1.cell (p := ⟨w.heap.size + 1, o, none⟩) (by simp)
  have hf1 := fun o => hb1.frozen (p := ⟨w.heap.size + 1, o, none⟩) (by simp)
  have HB1 : Hid (Below w.heap.size w w1) := below_tr HB0.out hb1
  clear hb1
  go_wp2
  exact bodyPost_ret (v := recV r1 r2 r3) (by simp [results, Tryz.results66, go_sem, hc1]) rfl ⟨rfl, ((HB1.out.setCell (p := ⟨w.heap.size + 1, 0, none⟩) (Nat.le_succ _) _).setCell (p := ⟨w.heap.size + 1, 1, none⟩) (Nat.le_succ _) _).setCell (p := ⟨w.heap.size + 1, 2, none⟩) (Nat.le_succ _) _⟩
theorem at_ans {w w6 : World} {cap first : Int} {base rl cl : Nat} {recs : List ByteArray} {curs : List (Int × Int)} {a : Option Addr} {q : Nat} {c : Option Addr} {p : Nat} {k t : Int} {d : ByteArray} (ho : OwnRing w6 base a rl q c cl p (recs.map Value.string) (curCells curs)) (hB : Below w.heap.size w w6) (hr : recs.length = rl) (hl : curs.length = cl) (hz : w.heap.size + 1 < base) (v0 v1 v2 v3 v4 v5 v6 v7 : Value) :
    Answers w (set8 w6 (w.heap.size + 1) v0 v1 v2 v3 v4 v5 v6 v7) (.returned (ringOutV cap first a rl q c cl p k t d 0)) (RO.mk cap first recs curs k t d 0) := by
  subst hr hl
  exact ⟨a, q, c, p, rfl, ⟨(own_set8 ho.1 (w.heap.size + 1) hz v0 v1 v2 v3 v4 v5 v6 v7).mono (by omega), (own_set8 ho.2 (w.heap.size + 1) hz v0 v1 v2 v3 v4 v5 v6 v7).mono (by omega)⟩, below_set8 hB (w.heap.size + 1) (by omega) v0 v1 v2 v3 v4 v5 v6 v7⟩
theorem at_box {w6 : World} {b : Nat} {v0 v1 v2 v3 v4 v5 v6 v7 : Value} (hx : w6.heap[b]? = some outObj0) : (set8 w6 b v0 v1 v2 v3 v4 v5 v6 v7).heap[b]? = some (.cells #[v0, v1, v2, v3, v4, v5, v6, v7] 32 (0, 0)) := by
  have h0 : (w6.setCell ⟨b, 0, none⟩ v0).heap[b]? = some (.cells #[v0, .int .i64 0, .slice none 0 0, .slice none 0 0, .int .i64 0, .int .i64 0, .string ⟨#[]⟩, .int .i64 0] 32 (0, 0)) := heap_setCell_same w6 b 0 _ _ v0 hx
  have h1 : ((w6.setCell ⟨b, 0, none⟩ v0).setCell ⟨b, 1, none⟩ v1).heap[b]? = some (.cells #[v0, v1, .slice none 0 0, .slice none 0 0, .int .i64 0, .int .i64 0, .string ⟨#[]⟩, .int .i64 0] 32 (0, 0)) := heap_setCell_same (w6.setCell ⟨b, 0, none⟩ v0) b 1 _ _ v1 h0
  have h2 : (((w6.setCell ⟨b, 0, none⟩ v0).setCell ⟨b, 1, none⟩ v1).setCell ⟨b, 2, none⟩ v2).heap[b]? = some (.cells #[v0, v1, v2, .slice none 0 0, .int .i64 0, .int .i64 0, .string ⟨#[]⟩, .int .i64 0] 32 (0, 0)) := heap_setCell_same ((w6.setCell ⟨b, 0, none⟩ v0).setCell ⟨b, 1, none⟩ v1) b 2 _ _ v2 h1
  have h3 : ((((w6.setCell ⟨b, 0, none⟩ v0).setCell ⟨b, 1, none⟩ v1).setCell ⟨b, 2, none⟩ v2).setCell ⟨b, 3, none⟩ v3).heap[b]? = some (.cells #[v0, v1, v2, v3, .int .i64 0, .int .i64 0, .string ⟨#[]⟩, .int .i64 0] 32 (0, 0)) := heap_setCell_same (((w6.setCell ⟨b, 0, none⟩ v0).setCell ⟨b, 1, none⟩ v1).setCell ⟨b, 2, none⟩ v2) b 3 _ _ v3 h2
  have h4 : (((((w6.setCell ⟨b, 0, none⟩ v0).setCell ⟨b, 1, none⟩ v1).setCell ⟨b, 2, none⟩ v2).setCell ⟨b, 3, none⟩ v3).setCell ⟨b, 4, none⟩ v4).heap[b]? = some (.cells #[v0, v1, v2, v3, v4, .int .i64 0, .string ⟨#[]⟩, .int .i64 0] 32 (0, 0)) := heap_setCell_same ((((w6.setCell ⟨b, 0, none⟩ v0).setCell ⟨b, 1, none⟩ v1).setCell ⟨b, 2, none⟩ v2).setCell ⟨b, 3, none⟩ v3) b 4 _ _ v4 h3
  have h5 : ((((((w6.setCell ⟨b, 0, none⟩ v0).setCell ⟨b, 1, none⟩ v1).setCell ⟨b, 2, none⟩ v2).setCell ⟨b, 3, none⟩ v3).setCell ⟨b, 4, none⟩ v4).setCell ⟨b, 5, none⟩ v5).heap[b]? = some (.cells #[v0, v1, v2, v3, v4, v5, .string ⟨#[]⟩, .int .i64 0] 32 (0, 0)) := heap_setCell_same (((((w6.setCell ⟨b, 0, none⟩ v0).setCell ⟨b, 1, none⟩ v1).setCell ⟨b, 2, none⟩ v2).setCell ⟨b, 3, none⟩ v3).setCell ⟨b, 4, none⟩ v4) b 5 _ _ v5 h4
  have h6 : (((((((w6.setCell ⟨b, 0, none⟩ v0).setCell ⟨b, 1, none⟩ v1).setCell ⟨b, 2, none⟩ v2).setCell ⟨b, 3, none⟩ v3).setCell ⟨b, 4, none⟩ v4).setCell ⟨b, 5, none⟩ v5).setCell ⟨b, 6, none⟩ v6).heap[b]? = some (.cells #[v0, v1, v2, v3, v4, v5, v6, .int .i64 0] 32 (0, 0)) := heap_setCell_same ((((((w6.setCell ⟨b, 0, none⟩ v0).setCell ⟨b, 1, none⟩ v1).setCell ⟨b, 2, none⟩ v2).setCell ⟨b, 3, none⟩ v3).setCell ⟨b, 4, none⟩ v4).setCell ⟨b, 5, none⟩ v5) b 6 _ _ v6 h5
  have h7 : ((((((((w6.setCell ⟨b, 0, none⟩ v0).setCell ⟨b, 1, none⟩ v1).setCell ⟨b, 2, none⟩ v2).setCell ⟨b, 3, none⟩ v3).setCell ⟨b, 4, none⟩ v4).setCell ⟨b, 5, none⟩ v5).setCell ⟨b, 6, none⟩ v6).setCell ⟨b, 7, none⟩ v7).heap[b]? = some (.cells #[v0, v1, v2, v3, v4, v5, v6, v7] 32 (0, 0)) := heap_setCell_same (((((((w6.setCell ⟨b, 0, none⟩ v0).setCell ⟨b, 1, none⟩ v1).setCell ⟨b, 2, none⟩ v2).setCell ⟨b, 3, none⟩ v3).setCell ⟨b, 4, none⟩ v4).setCell ⟨b, 5, none⟩ v5).setCell ⟨b, 6, none⟩ v6) b 7 _ _ v7 h6
  exact h7
theorem w2_out (w : World) (cap first : Int) (ra : Option Addr) (rl rc : Nat) (ca : Option Addr) (cl cc : Nat) : (W2 w cap first ra rl rc ca cl cc).heap[w.heap.size + 1]? = some outObj0 := by
  have h := heap_alloc_new (w.alloc (ringObj cap first ra rl rc ca cl cc)) outObj0
  rw [World.size_alloc] at h
  exact h
end Go.Proofs.YtbbaghlmialaoaaGreatDoor
/- RingAt of the specification, whole. -/
namespace Go.Proofs.YtbbaghlmialaoaaGreatDoor
open Go.RowKit
attribute [local go_sem ↓] Go.wp_at_zero Go.wp_at_succ
variable {cap first : Int} {ra ca : Option Addr} {rl rc cl cc : Nat}
set_option maxRecDepth 100000 in
set_option maxHeartbeats 4000000 in
theorem spec_ringAt (recs : List ByteArray) (curs : List (Int × Int)) (at' : Int) (w : World) (hi : RFit w ra rl rc ca cl cc recs curs) :
    Calls Tryz.prog 19 #[ringV cap first ra rl rc ca cl cc, .int .i64 at'] w fun e w' => Answers w w' e (atR cap first recs curs at') := by
  have HI : Hid (RFit w ra rl rc ca cl cc recs curs) := hi
  have hcl : cl ≤ 1048576 := hi.cle
  have hrl : rl ≤ 1048576 := hi.rle
  have HL : Hid (curs.length = cl) := hi.cur.curs.1
  have HRL : Hid (recs.length = rl) := hi.str.strs.1
  have HSR : Hid _ := fun w (hi : RFit w ra rl rc ca cl cc recs curs) => spec_ringRight cap first ra rl rc ca cl cc recs curs w hi.str.strs hi.cur.curs hi.rin.sz' hi.rle hi.cle
  clear hi
  have HB0 : Hid (Below w.heap.size w (W2 w cap first ra rl rc ca cl cc)) := w2_below ..
  obtain ⟨R, hR⟩ : ∃ R, ringRightB cap first recs curs = R := ⟨_, rfl⟩
  have HF : Hid (atR cap first recs curs at' = if R = false then RO.ill 1 else if ¬ (first ≤ at' ∧ at' ≤ first + (rl : Int) - 1) then RO.ill 8 else ⟨cap, first, recs, curs, (recAt recs (at' - first).toNat).1, (recAt recs (at' - first).toNat).2.1, (recAt recs (at' - first).toNat).2.2.1, 0⟩) := by rw [← hR, ← HRL.out]; rfl
  rw [hR] at HSR
  have HRR : Hid (R = true → (0 ≤ first ∧ first ≤ 1000000)) := fun h => (right_first (hR.trans h)).1
  clear hR
  go_enter Tryz.func19, Tryz.ntmps19
  go_wp2_with fail
  refine (HSR.out _ (HI.out.below HB0.out)).mono ?_
  rintro e w2 ⟨rfl, hb2⟩
  have HB2 : Hid (Below w.heap.size w w2) := below_tr HB0.out hb2
  have HW2 : Hid (Below (W2 w cap first ra rl rc ca cl cc).heap.size (W2 w cap first ra rl rc ca cl cc) w2) := hb2
  clear hb2 HSR
  have hc2 := fun o => HW2.out.cell (p := ⟨w.heap.size, o, none⟩) (by simp only [World.size_alloc]; omega)
  cases R
  · have hE : Hid (atR cap first recs curs at' = RO.ill 1) := HF.out.trans (if_pos rfl)
    clear HF
    go_wp2_with fail
    refine (spec_ill 1 _).mono ?_
    rintro e w3 ⟨rfl, hb3⟩
    have HB3 : Hid (Below w.heap.size w w3) := below_tr HB2.out hb3
    have HW3 : Hid (Below (W2 w cap first ra rl rc ca cl cc).heap.size (W2 w cap first ra rl rc ca cl cc) w3) := below_tr HW2.out hb3
    clear hb3 hc2
    have hc3 := fun o => HW3.out.cell (p := ⟨w.heap.size + 1, o, none⟩) (by simp)
    have hf3 := fun o => HW3.out.frozen (p := ⟨w.heap.size + 1, o, none⟩) (by simp)
    go_wp2
    refine bodyPost_ret (v := ringIll 1) (by simp [results, Tryz.results19, go_sem, hc3]) rfl ?_
    rw [hE.out]
    exact ans_ill 1 HB3.out _ (by omega) _ _ _ _ _ _ _ _
  · have HFT := HRR.out rfl
    have HF2 : Hid (atR cap first recs curs at' = if ¬ (first ≤ at' ∧ at' ≤ first + (rl : Int) - 1) then RO.ill 8 else ⟨cap, first, recs, curs, (recAt recs (at' - first).toNat).1, (recAt recs (at' - first).toNat).2.1, (recAt recs (at' - first).toNat).2.2.1, 0⟩) := HF.out.trans (if_neg (by simp))
    clear HF HRR
    have HIS : Hid _ := fun w => spec_is at' first (first + (rl : Int) - 1) w
    obtain ⟨T, hT⟩ : ∃ T, decide (first ≤ at' ∧ at' ≤ first + (rl : Int) - 1) = T := ⟨_, rfl⟩
    rw [hT] at HIS
    have HTD : Hid (decide (first ≤ at' ∧ at' ≤ first + (rl : Int) - 1) = T) := hT
    clear hT
    have hW : IntKind.i64.wrap (first + (rl : Int) - 1) = first + (rl : Int) - 1 := i64_wrap_in _ (by omega) (by omega)
    have HWc : Hid (Below (W2 w cap first ra rl rc ca cl cc).heap.size (W2 w cap first ra rl rc ca cl cc) w2.drew) := HW2.out.drew
    go_upto_region 3 with fail
    go_cut [16] (fun s16 wc => s16 = .bool (!T) ∧ Hid (Below (W2 w cap first ra rl rc ca cl cc).heap.size (W2 w cap first ra rl rc ca cl cc) wc))
    case first =>
      first | (go_region_with (first
        | (go_at_call 64; refine (spec_end cap first ra rl rc ca cl cc _ HFT hrl).mono ?_; rintro e w3 ⟨rfl, hb3⟩; have HWc : Hid (Below (W2 w cap first ra rl rc ca cl cc).heap.size (W2 w cap first ra rl rc ca cl cc) w3) := below_tr HWc.out hb3; have hc3 := fun o => HWc.out.cell (p := ⟨w.heap.size, o, none⟩) (by simp only [World.size_alloc]; omega); clear hb3)
        | (go_at_call 63; refine (HIS.out _).mono ?_; rintro e w4 ⟨rfl, hw4⟩; rw [hw4]; clear hw4 w4))) | fail
      all_goals (go_wp2_with fail; go_meet; exact ⟨rfl, HWc⟩)
    case rest =>
    obtain ⟨rfl, HW3⟩ := hcut
    clear HWc hW HIS hc2
    have HB3 : Hid (Below w.heap.size w wc) := below_tr HB0.out HW3.out
    cases T
    · have hE : Hid (atR cap first recs curs at' = RO.ill 8) := HF2.out.trans (if_pos (of_decide_eq_false HTD.out))
      clear HF2
      go_wp2_with fail
      refine (spec_ill 8 _).mono ?_
      rintro e w4 ⟨rfl, hb4⟩
      have HB4 : Hid (Below w.heap.size w w4) := below_tr HB3.out hb4
      have HW4 : Hid (Below (W2 w cap first ra rl rc ca cl cc).heap.size (W2 w cap first ra rl rc ca cl cc) w4) := below_tr HW3.out hb4
      clear hb4
      have hc4 := fun o => HW4.out.cell (p := ⟨w.heap.size + 1, o, none⟩) (by simp)
      have hf4 := fun o => HW4.out.frozen (p := ⟨w.heap.size + 1, o, none⟩) (by simp)
      go_wp2
      refine bodyPost_ret (v := ringIll 8) (by simp [results, Tryz.results19, go_sem, hc4]) rfl ?_
      rw [hE.out]
      exact ans_ill 8 HB4.out _ (by omega) _ _ _ _ _ _ _ _
    · have hin := of_decide_eq_true HTD.out
      obtain ⟨K, hK⟩ : ∃ K : Nat, at' = first + (K : Int) := ⟨(at' - first).toNat, by omega⟩
      subst hK
      have hKr : K < rl := by omega
      have hE : Hid (atR cap first recs curs (first + (K : Int)) = ⟨cap, first, recs, curs, (recAt recs K).1, (recAt recs K).2.1, (recAt recs K).2.2.1, 0⟩) := by
        have h := HF2.out.trans (if_neg (by simp only [Decidable.not_not]; exact hin))
        rw [show (first + (K : Int) - first).toNat = K by omega] at h
        exact h
      clear HF2 hin HTD
      have HAT0 : Hid (∀ w, StrIn w ra rl rc recs → Calls Tryz.prog 66 #[ringV cap first ra rl rc ca cl cc, .int .i64 (first + (K : Int))] w fun e w' => e = .returned (recV (recAt recs K).1 (recAt recs K).2.1 (recAt recs K).2.2.1) ∧ Below w.heap.size w w') := fun w h => spec_lat (cap := cap) (first := first) (ca := ca) (cl := cl) (cc := cc) recs K w h HI.out.rin.sz' hKr hrl
      obtain ⟨R, hR⟩ : ∃ R, recAt recs K = R := ⟨_, rfl⟩
      rw [hR] at HAT0 hE
      clear hR
      obtain ⟨ra1, ra2, ra3, ra4⟩ := R
      have HAT : Hid (∀ w, StrIn w ra rl rc recs → Calls Tryz.prog 66 #[ringV cap first ra rl rc ca cl cc, .int .i64 (first + (K : Int))] w fun e w' => e = .returned (recV ra1 ra2 ra3) ∧ Below w.heap.size w w') := HAT0.out
      clear HAT0
      have hc3 := fun o => HW3.out.cell (p := ⟨w.heap.size, o, none⟩) (by simp only [World.size_alloc]; omega)
      have HWc : Hid (Below (W2 w cap first ra rl rc ca cl cc).heap.size (W2 w cap first ra rl rc ca cl cc) wc.drew) := HW3.out.drew
      have HBc : Hid (Below w.heap.size w wc.drew) := HB3.out.drew
      have hzu : w.heap.size + 1 < (W2 w cap first ra rl rc ca cl cc).heap.size := by simp
      go_upto_region 5 with fail
      go_cut [] (fun wd => ∃ (a : Option Addr) (q : Nat) (c : Option Addr) (p : Nat), Hid (Answers w wd (.returned (ringOutV cap first a rl q c cl p ra1 ra2 ra3 0)) (RO.mk cap first recs curs ra1 ra2 ra3 0)) ∧ Hid (wd.heap[w.heap.size + 1]? = some (.cells #[.int .i64 cap, .int .i64 first, .slice a rl q, .slice c cl p, .int .i64 ra1, .int .i64 ra2, .string ra3, .int .i64 0] 32 (0, 0))))
      case first =>
        first | (go_region_with (first
          | (go_at_call 65; refine (spec_copy recs curs _ (HI.out.str.below HBc.out) (HI.out.cur.below HBc.out) (by omega) (by omega)).mono ?_; rintro e w5 ⟨a5, q5, c5, p5, rfl, ho5, hb5⟩; have HO5 : Hid (OwnRing w5 (W2 w cap first ra rl rc ca cl cc).heap.size a5 rl q5 c5 cl p5 (recs.map Value.string) (curCells curs)) := ⟨ho5.1.mono HWc.out.size, ho5.2.mono HWc.out.size⟩; have HWc : Hid (Below (W2 w cap first ra rl rc ca cl cc).heap.size (W2 w cap first ra rl rc ca cl cc) w5) := below_tr HWc.out hb5; have HBc : Hid (Below w.heap.size w w5) := below_tr HBc.out hb5; have hc5 := fun o => HWc.out.cell (p := ⟨w.heap.size, o, none⟩) (by simp only [World.size_alloc]; omega); have hd5 := fun o => HWc.out.cell (p := ⟨w.heap.size + 1, o, none⟩) (by simp); have hf5 := fun o => HWc.out.frozen (p := ⟨w.heap.size + 1, o, none⟩) (by simp); clear hb5 ho5)
          | (go_at_call 66; refine (HAT.out _ (HI.out.str.below HBc.out)).mono ?_; rintro e w6 ⟨rfl, hb6⟩; ((have HO5 : Hid (OwnRing w6 (W2 w cap first ra rl rc ca cl cc).heap.size a5 rl q5 c5 cl p5 (recs.map Value.string) (curCells curs)) := HO5.out.below hb6)); have HWc : Hid (Below (W2 w cap first ra rl rc ca cl cc).heap.size (W2 w cap first ra rl rc ca cl cc) w6) := below_tr HWc.out hb6; have HBc : Hid (Below w.heap.size w w6) := below_tr HBc.out hb6; have hc5 := fun o => HWc.out.cell (p := ⟨w.heap.size, o, none⟩) (by simp only [World.size_alloc]; omega); have hd5 := fun o => HWc.out.cell (p := ⟨w.heap.size + 1, o, none⟩) (by simp); have hf5 := fun o => HWc.out.frozen (p := ⟨w.heap.size + 1, o, none⟩) (by simp); clear hb6))) | fail
        all_goals
          go_wp2_with fail
          go_meet
          exact ⟨a5, q5, c5, p5, at_ans HO5.out HBc.out HRL.out HL.out hzu _ _ _ _ _ _ _ _, at_box ((HWc.out.block _ hzu).trans (w2_out ..))⟩
      case rest =>
      obtain ⟨a, q, c, p, hAns, hX⟩ := hcut
      have hx := fun o => cell_of_block0 hX.out o
      go_wp2
      refine bodyPost_ret (v := ringOutV cap first a rl q c cl p ra1 ra2 ra3 0) (by simp [results, Tryz.results19, go_sem, hx]) rfl ?_
      rw [hE.out]
      exact hAns.out
end Go.Proofs.YtbbaghlmialaoaaGreatDoor
/- What RingPut's law keeps from call to call, where an answer's box may be made ahead of its lists or behind them. -/
namespace Go.Proofs.YtbbaghlmialaoaaGreatDoor
open Go.RowKit

theorem heap_set8 (u : World) (b i : Nat) (h : i ≠ b) (v0 v1 v2 v3 v4 v5 v6 v7 : Value) : (set8 u b v0 v1 v2 v3 v4 v5 v6 v7).heap[i]? = u.heap[i]? := by
  unfold set8
  rw [Below.heap_setCell _ _ _ _ h, Below.heap_setCell _ _ _ _ h, Below.heap_setCell _ _ _ _ h, Below.heap_setCell _ _ _ _ h, Below.heap_setCell _ _ _ _ h, Below.heap_setCell _ _ _ _ h, Below.heap_setCell _ _ _ _ h, Below.heap_setCell _ _ _ _ h]
theorem Grown2.set8 (u : World) (b : Nat) (v0 v1 v2 v3 v4 v5 v6 v7 : Value) : Grown2 u (set8 u b v0 v1 v2 v3 v4 v5 v6 v7) (some b) none := by
  have hb := below_set8 (Below.refl b u) b (Nat.le_refl _) v0 v1 v2 v3 v4 v5 v6 v7
  exact ⟨hb.os, hb.tape, hb.output, hb.size, fun k _ h1 _ => heap_set8 u b k (fun e => h1 (by rw [e])) v0 v1 v2 v3 v4 v5 v6 v7⟩
/-- A box that was made for an answer, and nothing has been laid in it yet. -/
structure BoxAt (lo : Nat) (u : World) (b : Nat) : Prop where
  box : u.heap[b]? = some outObj0
  lo : lo ≤ b
theorem boxNew {lo : Nat} {W v : World} (h : lo ≤ W.heap.size) (hb : Below (W.alloc outObj0).heap.size (W.alloc outObj0) v) : BoxAt lo v W.heap.size := ⟨blk (heap_alloc_new _ _) hb, h⟩
theorem boxKeep {lo : Nat} {u v : World} {b : Nat} (h : BoxAt lo u b) (hb : Below u.heap.size u v) : BoxAt lo v b := ⟨blk h.box hb, h.lo⟩
theorem boxLtNew (W : World) : W.heap.size < (W.alloc outObj0).heap.size := by rw [World.size_alloc]; omega
/-- The two arguments' boxes, and the specification's answer: all of it below N. -/
structure KP (w u : World) (oA oR oB : Obj) (B N : Nat) (a : Option Addr) (n q : Nat) (c : Option Addr) (m p : Nat) (xs ys : List Value) : Prop where
  ba : u.heap[w.heap.size]? = some oA
  br : u.heap[w.heap.size + 1]? = some oR
  blo : Below w.heap.size w u
  bb : u.heap[B]? = some oB
  own : OwnRing u w.heap.size a n q c m p xs ys
  l1 : ∀ j, (Value.slice a n q).ownBlock = some j → j < N
  l2 : ∀ j, (Value.slice c m p).ownBlock = some j → j < N
  ltB : B < N
  lt : w.heap.size + 1 < N
theorem KP.below {w u v : World} {oA oR oB : Obj} {B N : Nat} {a : Option Addr} {n q : Nat} {c : Option Addr} {m p : Nat} {xs ys : List Value} (h : KP w u oA oR oB B N a n q c m p xs ys) (hb : Below u.heap.size u v) : KP w v oA oR oB B N a n q c m p xs ys :=
  ⟨blk h.ba hb, blk h.br hb, below_tr h.blo hb, blk h.bb hb, h.own.below hb, h.l1, h.l2, h.ltB, h.lt⟩
theorem KP.grown {w u v : World} {oA oR oB : Obj} {B N : Nat} {a : Option Addr} {n q : Nat} {c : Option Addr} {m p : Nat} {xs ys : List Value} {r s : Option Nat} (h : KP w u oA oR oB B N a n q c m p xs ys) (k : Grown2 u v r s) (hr : ∀ i, r = some i → N ≤ i) (hs : ∀ i, s = some i → N ≤ i) : KP w v oA oR oB B N a n q c m p xs ys := by
  have hlt := h.lt
  have hB := h.ltB
  have hn : ∀ i, i < N → some i ≠ r ∧ some i ≠ s := fun i hi => ⟨fun e => by have := hr i e.symm; omega, fun e => by have := hs i e.symm; omega⟩
  refine ⟨blk2 h.ba k (hn _ (by omega)).1 (hn _ (by omega)).2, blk2 h.br k (hn _ (by omega)).1 (hn _ (by omega)).2, Grown2.below h.blo h.blo.size k (fun i e => by have := hr i e; omega) (fun i e => by have := hs i e; omega), blk2 h.bb k (hn _ (by omega)).1 (hn _ (by omega)).2, ⟨k.kept h.own.1 fun i e => hn i (h.l1 i e), k.kept h.own.2 fun i e => hn i (h.l2 i e)⟩, h.l1, h.l2, h.ltB, h.lt⟩
theorem KP.set8 {w u : World} {oA oR oB : Obj} {B N b : Nat} {a : Option Addr} {n q : Nat} {c : Option Addr} {m p : Nat} {xs ys : List Value} (h : KP w u oA oR oB B N a n q c m p xs ys) (hb : N ≤ b) (v0 v1 v2 v3 v4 v5 v6 v7 : Value) : KP w (set8 u b v0 v1 v2 v3 v4 v5 v6 v7) oA oR oB B N a n q c m p xs ys :=
  h.grown (Grown2.set8 u b v0 v1 v2 v3 v4 v5 v6 v7) (fun i e => by cases e; exact hb) (fun i e => by cases e)
/-- A box O, and a ring of its own: all of it from base on, and below T. -/
structure KX (u : World) (base O T : Nat) (o : Obj) (a : Option Addr) (n q : Nat) (c : Option Addr) (m p : Nat) (xs ys : List Value) : Prop where
  bo : u.heap[O]? = some o
  own : OwnRing u base a n q c m p xs ys
  l1 : ∀ j, (Value.slice a n q).ownBlock = some j → j < T ∧ j ≠ O
  l2 : ∀ j, (Value.slice c m p).ownBlock = some j → j < T ∧ j ≠ O
  lo : base ≤ O
  hi : O < T
theorem KX.below {u v : World} {base O T : Nat} {o : Obj} {a : Option Addr} {n q : Nat} {c : Option Addr} {m p : Nat} {xs ys : List Value} (h : KX u base O T o a n q c m p xs ys) (hb : Below u.heap.size u v) : KX v base O T o a n q c m p xs ys :=
  ⟨blk h.bo hb, h.own.below hb, h.l1, h.l2, h.lo, h.hi⟩
theorem KX.grown {u v : World} {base O T : Nat} {o : Obj} {a : Option Addr} {n q : Nat} {c : Option Addr} {m p : Nat} {xs ys : List Value} {r s : Option Nat} (h : KX u base O T o a n q c m p xs ys) (k : Grown2 u v r s) (hr : ∀ i, r = some i → i < base ∨ T ≤ i) (hs : ∀ i, s = some i → i < base ∨ T ≤ i) : KX v base O T o a n q c m p xs ys := by
  have hlo := h.lo
  have hhi := h.hi
  have hn : ∀ i, base ≤ i → i < T → some i ≠ r ∧ some i ≠ s := fun i h1 h2 => ⟨fun e => by have := hr i e.symm; omega, fun e => by have := hs i e.symm; omega⟩
  exact ⟨blk2 h.bo k (hn _ hlo hhi).1 (hn _ hlo hhi).2, ⟨k.kept h.own.1 fun i e => hn i (h.own.1.lt i e).1 (h.l1 i e).1, k.kept h.own.2 fun i e => hn i (h.own.2.lt i e).1 (h.l2 i e).1⟩, h.l1, h.l2, h.lo, h.hi⟩
theorem KX.set8 {u : World} {base O T b : Nat} {o : Obj} {a : Option Addr} {n q : Nat} {c : Option Addr} {m p : Nat} {xs ys : List Value} (h : KX u base O T o a n q c m p xs ys) (hb : T ≤ b) (v0 v1 v2 v3 v4 v5 v6 v7 : Value) : KX (set8 u b v0 v1 v2 v3 v4 v5 v6 v7) base O T o a n q c m p xs ys :=
  h.grown (Grown2.set8 u b v0 v1 v2 v3 v4 v5 v6 v7) (fun i e => by cases e; exact .inr hb) (fun i e => by cases e)
theorem KX.mark {u v : World} {base O T : Nat} {o : Obj} {a : Option Addr} {n q : Nat} {c : Option Addr} {m p : Nat} {xs ys xs' ys' : List Value} (h : KX u base O T o a n q c m p xs ys) (ho : OwnRing v base a n q c m p xs' ys') (k : Grown2 u v (Value.slice a n q).ownBlock (Value.slice c m p).ownBlock) : KX v base O T o a n q c m p xs' ys' :=
  ⟨blk2 h.bo k (fun e => (h.l1 _ e.symm).2 rfl) (fun e => (h.l2 _ e.symm).2 rfl), ho, h.l1, h.l2, h.lo, h.hi⟩
theorem KP.mark {w u v : World} {oA oR oB o : Obj} {B N O T base : Nat} {a a' : Option Addr} {n q n' q' : Nat} {c c' : Option Addr} {m p m' p' : Nat} {xs ys xs' ys' : List Value} (h : KP w u oA oR oB B N a n q c m p xs ys) (hx : KX u base O T o a' n' q' c' m' p' xs' ys') (hN : N ≤ base) (k : Grown2 u v (Value.slice a' n' q').ownBlock (Value.slice c' m' p').ownBlock) : KP w v oA oR oB B N a n q c m p xs ys :=
  h.grown k (fun i e => by have := (hx.own.1.lt i e).1; omega) (fun i e => by have := (hx.own.2.lt i e).1; omega)
theorem KX.mark2 {u v : World} {base base' O O' T T' : Nat} {o o' : Obj} {a a' : Option Addr} {n q n' q' : Nat} {c c' : Option Addr} {m p m' p' : Nat} {xs ys xs' ys' : List Value} (h : KX u base O T o a n q c m p xs ys) (hx : KX u base' O' T' o' a' n' q' c' m' p' xs' ys') (hT : T' ≤ base) (k : Grown2 u v (Value.slice a' n' q').ownBlock (Value.slice c' m' p').ownBlock) : KX v base O T o a n q c m p xs ys :=
  h.grown k (fun i e => by have := (hx.l1 i e).1; omega) (fun i e => by have := (hx.l2 i e).1; omega)
/-- The box behind the lists. -/
theorem kp_a {w w3 : World} {oA oR oB : Obj} {b3 : Nat} {a : Option Addr} {n q : Nat} {c : Option Addr} {m p : Nat} {xs ys : List Value} (ha : w3.heap[w.heap.size]? = some oA) (hr : w3.heap[w.heap.size + 1]? = some oR) (hb : Below w.heap.size w w3) (ho : OwnRing w3 b3 a n q c m p xs ys) (h2 : w.heap.size ≤ b3) : KP w (w3.alloc oB) oA oR oB w3.heap.size (w3.alloc oB).heap.size a n q c m p xs ys := by
  have hz : (w3.alloc oB).heap.size = w3.heap.size + 1 := World.size_alloc _ _
  have hl := blk_lt hr
  exact ⟨blk ha (below_new _ _), blk hr (below_new _ _), below_tr hb (below_new _ _), heap_alloc_new _ _, OwnRing.below ⟨ho.1.mono h2, ho.2.mono h2⟩ (below_new _ _), fun j e => by have := (ho.1.lt j e).2; omega, fun j e => by have := (ho.2.lt j e).2; omega, by omega, by omega⟩
/-- The lists behind the box. -/
theorem kp_b {w w3 : World} {oA oR : Obj} {lo b b3 : Nat} {a : Option Addr} {n q : Nat} {c : Option Addr} {m p : Nat} {xs ys : List Value} (ha : w3.heap[w.heap.size]? = some oA) (hr : w3.heap[w.heap.size + 1]? = some oR) (hb : Below w.heap.size w w3) (ho : OwnRing w3 b3 a n q c m p xs ys) (hx : BoxAt lo w3 b) (hlo : w.heap.size + 2 ≤ lo) (hb3 : b < b3) (v0 v1 v2 v3 v4 v5 v6 v7 : Value) : KP w (set8 w3 b v0 v1 v2 v3 v4 v5 v6 v7) oA oR (.cells #[v0, v1, v2, v3, v4, v5, v6, v7] 32 (0, 0)) b (set8 w3 b v0 v1 v2 v3 v4 v5 v6 v7).heap.size a n q c m p xs ys := by
  have hz := (below_set8 (Below.refl b w3) b (Nat.le_refl _) v0 v1 v2 v3 v4 v5 v6 v7).size
  have hl := blk_lt hx.box
  have h1 := hx.lo
  exact ⟨(heap_set8 w3 b _ (by omega) v0 v1 v2 v3 v4 v5 v6 v7).trans ha, (heap_set8 w3 b _ (by omega) v0 v1 v2 v3 v4 v5 v6 v7).trans hr, below_set8 hb b (by omega) v0 v1 v2 v3 v4 v5 v6 v7, at_box hx.box, ⟨(own_set8 ho.1 b hb3 v0 v1 v2 v3 v4 v5 v6 v7).mono (by omega), (own_set8 ho.2 b hb3 v0 v1 v2 v3 v4 v5 v6 v7).mono (by omega)⟩, fun j e => Nat.lt_of_lt_of_le (ho.1.lt j e).2 hz, fun j e => Nat.lt_of_lt_of_le (ho.2.lt j e).2 hz, Nat.lt_of_lt_of_le hl hz, Nat.lt_of_lt_of_le (blk_lt hr) hz⟩
theorem kx_a {w4 : World} {N b4 : Nat} {o : Obj} {a : Option Addr} {n q : Nat} {c : Option Addr} {m p : Nat} {xs ys : List Value} (ho : OwnRing w4 b4 a n q c m p xs ys) (hN : N ≤ b4) (h4 : b4 ≤ w4.heap.size) : KX (w4.alloc o) N w4.heap.size (w4.alloc o).heap.size o a n q c m p xs ys := by
  have hz : (w4.alloc o).heap.size = w4.heap.size + 1 := World.size_alloc _ _
  exact ⟨heap_alloc_new _ _, OwnRing.below ⟨ho.1.mono hN, ho.2.mono hN⟩ (below_new _ _), fun j e => by have := (ho.1.lt j e).2; omega, fun j e => by have := (ho.2.lt j e).2; omega, by omega, by omega⟩
theorem kx_b {w5 : World} {T lo b b5 : Nat} {a : Option Addr} {n q : Nat} {c : Option Addr} {m p : Nat} {xs ys : List Value} (ho : OwnRing w5 b5 a n q c m p xs ys) (hx : BoxAt lo w5 b) (hlo : T ≤ lo) (hb5 : b < b5) (v0 v1 v2 v3 v4 v5 v6 v7 : Value) : KX (set8 w5 b v0 v1 v2 v3 v4 v5 v6 v7) T b (set8 w5 b v0 v1 v2 v3 v4 v5 v6 v7).heap.size (.cells #[v0, v1, v2, v3, v4, v5, v6, v7] 32 (0, 0)) a n q c m p xs ys := by
  have hz := (below_set8 (Below.refl b w5) b (Nat.le_refl _) v0 v1 v2 v3 v4 v5 v6 v7).size
  have hl := blk_lt hx.box
  have h1 := hx.lo
  exact ⟨at_box hx.box, ⟨(own_set8 ho.1 b hb5 v0 v1 v2 v3 v4 v5 v6 v7).mono (by omega), (own_set8 ho.2 b hb5 v0 v1 v2 v3 v4 v5 v6 v7).mono (by omega)⟩, fun j e => ⟨Nat.lt_of_lt_of_le (ho.1.lt j e).2 hz, by have := (ho.1.lt j e).1; omega⟩, fun j e => ⟨Nat.lt_of_lt_of_le (ho.2.lt j e).2 hz, by have := (ho.2.lt j e).1; omega⟩, by omega, Nat.lt_of_lt_of_le hl hz⟩
end Go.Proofs.YtbbaghlmialaoaaGreatDoor
/- RingAt of the program. -/
namespace Go.Proofs.YtbbaghlmialaoaaGreatDoor
open Go.RowKit Go.Shelf
attribute [local go_sem] Oper.semAt_some
variable {cap first : Int} {ra ca : Option Addr} {rl rc cl cc : Nat}
abbrev atObj (at' : Int) : Obj := .cells #[.int .i64 at'] 2 (0, 0)
abbrev WA (w : World) (cap first : Int) (ra : Option Addr) (rl rc : Nat) (ca : Option Addr) (cl cc : Nat) (at' : Int) : World := ((w.alloc (ringObj cap first ra rl rc ca cl cc)).alloc (atObj at')).alloc outObj0
/-- The call's three boxes. -/
structure B3 (w u : World) (oR oA oX : Obj) : Prop where
  b0 : u.heap[w.heap.size]? = some oR
  b1 : u.heap[w.heap.size + 1]? = some oA
  b2 : u.heap[w.heap.size + 1 + 1]? = some oX
theorem b3_new (w : World) (oR oA oX : Obj) : B3 w (((w.alloc oR).alloc oA).alloc oX) oR oA oX := by
  refine ⟨?_, ?_, ?_⟩
  · exact (Below.heap_alloc _ _ _ (by simp; omega)).trans ((Below.heap_alloc _ _ _ (by simp)).trans (heap_alloc_new _ _))
  · have h := heap_alloc_new (w.alloc oR) oA
    rw [World.size_alloc] at h
    exact (Below.heap_alloc _ _ _ (by simp)).trans h
  · have h := heap_alloc_new ((w.alloc oR).alloc oA) oX
    rw [World.size_alloc, World.size_alloc] at h
    exact h
theorem B3.below {w u v : World} {oR oA oX : Obj} (h : B3 w u oR oA oX) (hb : Below u.heap.size u v) : B3 w v oR oA oX := ⟨blk h.b0 hb, blk h.b1 hb, blk h.b2 hb⟩
theorem B3.grown {w u v : World} {oR oA oX : Obj} {b : Nat} (h : B3 w u oR oA oX) (hg : u.grownBy v (some b)) (hb : w.heap.size + 2 < b) : B3 w v oR oA oX :=
  ⟨(hg.block _ (blk_lt h.b0) (fun e => by cases e; omega)).trans h.b0, (hg.block _ (blk_lt h.b1) (fun e => by cases e; omega)).trans h.b1, (hg.block _ (blk_lt h.b2) (fun e => by cases e; omega)).trans h.b2⟩
theorem B3.own {w u v : World} {cR cA cX : Array Value} {tR tA tX : TypeId} {row : Option Nat} (h : B3 w u (.cells cR tR (0, 0)) (.cells cA tA (0, 0)) (.cells cX tX (0, 0))) (hg : u.grownBy v row) (hr : ∀ r, row = some r → ∃ o : Obj, u.heap[r]? = some o ∧ o.isCells = false) : B3 w v (.cells cR tR (0, 0)) (.cells cA tA (0, 0)) (.cells cX tX (0, 0)) :=
  ⟨heap_own h.b0 hg hr, heap_own h.b1 hg hr, heap_own h.b2 hg hr⟩
theorem row_own {u v : World} {base e size n : Nat} {x : Value} {xs : List Value} {row : Option Nat} (h : u.ownsRow base e size x n xs) (hg : u.grownBy v row) (hr : ∀ r, row = some r → ∃ o : Obj, u.heap[r]? = some o ∧ o.isCells = false) : v.ownsRow base e size x n xs := by
  refine ⟨h.1, ?_⟩
  rcases h.2 with hn | ⟨g, cap, cur, rfl, hb, hg', rest⟩
  · exact .inl hn
  · exact .inr ⟨g, cap, cur, rfl, hb, heap_own hg' hg hr, rest⟩
theorem set8_keeps (W : World) (b : Nat) (v0 v1 v2 v3 v4 v5 v6 v7 : Value) : KeepsOthers W (set8 W b v0 v1 v2 v3 v4 v5 v6 v7) :=
  (((((((KeepsOthers.setCell W ⟨b, 0, none⟩ v0).trans (KeepsOthers.setCell _ ⟨b, 1, none⟩ v1)).trans (KeepsOthers.setCell _ ⟨b, 2, none⟩ v2)).trans (KeepsOthers.setCell _ ⟨b, 3, none⟩ v3)).trans (KeepsOthers.setCell _ ⟨b, 4, none⟩ v4)).trans (KeepsOthers.setCell _ ⟨b, 5, none⟩ v5)).trans (KeepsOthers.setCell _ ⟨b, 6, none⟩ v6)).trans (KeepsOthers.setCell _ ⟨b, 7, none⟩ v7)
/-- None of these is at that place. -/
def NotAt (at' : Int) (pre : List PRec) : Prop := ∀ y ∈ pre, y.1.1 ≠ at'
theorem notAt_snoc {at' : Int} {pre : List PRec} {x : PRec} (h : NotAt at' pre) (hx : x.1.1 ≠ at') : NotAt at' (pre ++ [x]) := fun y hy => by
  rcases List.mem_append.1 hy with hy | hy
  · exact h y hy
  · rw [List.mem_singleton.1 hy]; exact hx
theorem at_out {first at' : Int} {recs : List ByteArray} {rl : Nat} (h : NotAt at' (upto (pRec first recs) rl)) : ¬ (first ≤ at' ∧ at' ≤ first + (rl : Int) - 1) := fun hh => by
  refine h (pRec first recs (at' - first).toNat) ?_ ?_
  · unfold upto
    exact List.mem_map.2 ⟨(at' - first).toNat, List.mem_range.2 (by omega), rfl⟩
  · show first + (((at' - first).toNat : Nat) : Int) = at'
    omega
theorem at_in {first at' : Int} {recs : List ByteArray} {rl k : Nat} {y : PRec} (hk : k ≤ rl) (h : y ∈ upto (pRec first recs) k) (hy : y.1.1 = at') : (first ≤ at' ∧ at' ≤ first + (rl : Int) - 1) ∧ y.1.2.1 = (recAt recs (at' - first).toNat).1 ∧ y.1.2.2.1 = (recAt recs (at' - first).toNat).2.1 ∧ y.1.2.2.2 = (recAt recs (at' - first).toNat).2.2.1 := by
  unfold upto at h
  obtain ⟨j, hj, rfl⟩ := List.mem_map.1 h
  have hj' := List.mem_range.1 hj
  have hy' : first + (j : Int) = at' := hy
  have e : (at' - first).toNat = j := by omega
  rw [e]
  exact ⟨by omega, rfl, rfl, rfl⟩
set_option maxRecDepth 100000 in
set_option maxHeartbeats 4000000 in
theorem impl_ringAt (recs : List ByteArray) (curs : List (Int × Int)) (at' : Int) (w : World) (hi : RFit w ra rl rc ca cl cc recs curs) (hT : utabs w) :
    Calls Tryz.prog 18 #[ringV cap first ra rl rc ca cl cc, .int .i64 at'] w fun e w' => Answers w w' e (atR cap first recs curs at') := by
  have HI : Hid (RFit w ra rl rc ca cl cc recs curs) := hi
  have HT : Hid (utabs w) := hT
  have hrl : rl ≤ 1048576 := hi.rle
  have hcl : cl ≤ 1048576 := hi.cle
  have HRL : Hid (recs.length = rl) := hi.str.strs.1
  have HL : Hid (curs.length = cl) := hi.cur.curs.1
  clear hi hT
  have hB0 : Below w.heap.size w (WA w cap first ra rl rc ca cl cc at') := (((Below.refl _ _).alloc (Nat.le_refl _) _).alloc (by simp) _).alloc (by simp; omega) _
  have HB0 : Hid _ := hB0
  have H30 : Hid (B3 w (WA w cap first ra rl rc ca cl cc at') (ringObj cap first ra rl rc ca cl cc) (atObj at') outObj0) := b3_new w _ _ _
  clear hB0
  obtain ⟨R, hR⟩ : ∃ R, ringRightB cap first recs curs = R := ⟨_, rfl⟩
  have HF : Hid (atR cap first recs curs at' = if R = false then RO.ill 1 else if ¬ (first ≤ at' ∧ at' ≤ first + (rl : Int) - 1) then RO.ill 8 else ⟨cap, first, recs, curs, (recAt recs (at' - first).toNat).1, (recAt recs (at' - first).toNat).2.1, (recAt recs (at' - first).toNat).2.2.1, 0⟩) := by rw [← hR, ← HRL.out]; rfl
  have HRR : Hid (R = true → (0 ≤ first ∧ first ≤ 1000000)) := fun h => (right_first (hR.trans h)).1
  have HRB : Hid (ringRightB cap first recs curs = R) := hR
  clear hR
  refine (callsIn_wide (n := 9)).1 ?_
  refine callsIn_of_wp_marks Tryz.func18 rfl trivial ?_ rfl
  simp only [Tryz.ntmps18, List.size_toArray, List.length_cons, List.length_nil, Nat.reduceAdd, Nat.reduceSub, Array.replicate_succ, Array.replicate_zero, List.push_toArray, List.append_toArray, List.nil_append, List.cons_append]
  gi_wp2_with fail
  refine ⟨trivial, (callsIn_wide.2 (impl_atWork _)).mono ?_⟩
  rintro e w1 ⟨rfl, hb1, hw1, hz1⟩
  obtain ⟨b, hb⟩ : ∃ b, (WA w cap first ra rl rc ca cl cc at').heap.size + 1 = b := ⟨_, rfl⟩
  have hbb : w.heap.size + 2 < b := by rw [← hb]; simp
  rw [hb] at hw1 ⊢
  have H31 : Hid (B3 w w1 (ringObj cap first ra rl rc ca cl cc) (atObj at') outObj0) := H30.out.below hb1
  have HA : Hid _ := fun (_ : Unit) => impl_asked recs curs b w w1 HI.out.rin HT.out (below_tr HB0.out hb1) (by omega) hw1
  clear hb1 hw1 hz1 hb H30 HB0
  rw [HRB.out] at HA
  gi_wp2_with fail
  refine ⟨trivial, (callsIn_wide.2 (HA.out ())).mono ?_⟩
  rintro e w2 ⟨rfl, hA2, hg2⟩
  have H32 : Hid (B3 w w2 (ringObj cap first ra rl rc ca cl cc) (atObj at') outObj0) := H31.out.grown hg2 hbb
  have HB2 : Hid (Below w.heap.size w w2) := hA2.below
  obtain ⟨d, lp, hw2, _⟩ := hA2.work
  have HW2 : Hid (Work w2 b cap first ra rl rc ca cl cc d 0 lp) := hw2
  clear hA2 hg2 H31 HA hw2
  cases R
  · have hE : Hid (atR cap first recs curs at' = RO.ill 1) := HF.out.trans (if_pos rfl)
    have c2 := fun o => cell_of_block0 H32.out.b2 o
    have f2 := fun o => unfrozen_of_block0 H32.out.b2 o
    gi_wp2
    refine ⟨ringIll 1, by simp [results, Tryz.results18, go_sem, c2], ?_⟩
    rw [hE.out]
    exact ans_ill 1 HB2.out _ (by omega) _ _ _ _ _ _ _ _
  · have hF := HRR.out rfl
    have HF2 : Hid (atR cap first recs curs at' = if ¬ (first ≤ at' ∧ at' ≤ first + (rl : Int) - 1) then RO.ill 8 else ⟨cap, first, recs, curs, (recAt recs (at' - first).toNat).1, (recAt recs (at' - first).toNat).2.1, (recAt recs (at' - first).toNat).2.2.1, 0⟩) := HF.out.trans (if_neg (by simp))
    clear HF HRR
    gi_wp2_with fail
    refine ⟨trivial, (callsIn_wide.2 (impl_recs b _)).mono ?_⟩
    rintro e w3 ⟨rfl, hw3⟩
    obtain ⟨S2, hS2⟩ : ∃ S2, w2.heap.size = S2 := ⟨_, rfl⟩
    have hsz : w3.heap.size = S2 + 1 := by rw [hw3, World.size_alloc, hS2]
    have hb3 : Below w2.heap.size w2 w3 := by rw [hw3]; exact below_new _ _
    have hcB : w3.cell? ⟨S2, 0, none⟩ = some (.pointer (some ⟨b, 0, none⟩)) := by
      have h := heap_alloc_new w2 (.cells #[.pointer (some ⟨b, 0, none⟩)] 69)
      rw [← hw3, hS2] at h
      exact cell_of_heap h 0
    have H33 : Hid (B3 w w3 (ringObj cap first ra rl rc ca cl cc) (atObj at') outObj0) := H32.out.below hb3
    have HB3 : Hid (Below w.heap.size w w3) := below_tr HB2.out hb3
    have HW3 : Hid (Work w3 b cap first ra rl rc ca cl cc d 0 lp) := HW2.out.below hb3
    have hbS : b < S2 := by rw [← hS2]; exact HW2.out.lt
    rw [hS2]
    clear hw3 hb3 H32 HB2 HW2 hS2
    gi_wp2_with fail
    have HC : Hid (∀ u, Below w.heap.size w u → Calls Tryz.prog 50 #[ringV cap first ra rl rc ca cl cc] u fun e w' => ∃ a q c p, e = .returned (ringV cap first a rl q c cl p) ∧ OwnRing w' u.heap.size a rl q c cl p (recs.map Value.string) (curCells curs) ∧ Below u.heap.size u w') := fun u hb => impl_copyRing cap first ra rl rc ca cl cc recs curs u (HI.out.str.below hb) (HI.out.cur.below hb) HI.out.sz (by omega) (by omega)
    have hrn : ∀ x, ra = some x → x.block < S2 + 1 := fun x e => by have := HI.out.rin.rlt x e; omega
    refine wpIn_rangeFunc_ownH rfl (by omega) (gf := 111) (lb := #[.pointer (some ⟨S2, 0, none⟩)]) rfl trivial (enters_of Tryz.func111 (by kernel_rfl) rfl)
      (recs_stops _ S2 (S2 + 1) b (by omega) d 0 lp recs w3 (by omega) hcB (by omega) HW3.out (by omega) (strs_below HI.out.str.strs HB3.out) hrn HI.out.rin.sz' (fun W' hb => utabs_below HT.out (HB3.out.trans (hb.mono (by omega)))) hF hrl)
      belowK_t (belowK_b (by omega)) (Below.refl _ _) (fun _ => rfl)
      (fun pre W => (NotAt at' pre ∧ S2 + 1 ≤ W.heap.size ∧ B3 w W (ringObj cap first ra rl rc ca cl cc) (atObj at') outObj0) ∧ Below w.heap.size w W)
      (fun c pre W => (c = .ret ∧ ∃ (y : PRec) (a : Option Addr) (q : Nat) (c' : Option Addr) (p : Nat), y ∈ pre ∧ y.1.1 = at' ∧ W.heap[w.heap.size + 1 + 1]? = some (outObj cap first a rl q c' cl p y.1.2.1 y.1.2.2.1 y.1.2.2.2 0) ∧ OwnRing W (S2 + 1) a rl q c' cl p (recs.map Value.string) (curCells curs)) ∧ Below w.heap.size w W)
      (OwnFrom.and (fun s A B row hs hg hr => ⟨hs.1, Nat.le_trans hs.2.1 hg.size, hs.2.2.own hg (fun r e => (hr r e).2)⟩) (ownFrom_below (Nat.le_refl _) (by omega)))
      (fun c => OwnFrom.and (fun s A B row hs hg hr => by
        obtain ⟨h0, y, a, q, c', p, h1, h2, h3, h4⟩ := hs
        exact ⟨h0, y, a, q, c', p, h1, h2, heap_own h3 hg (fun r e => (hr r e).2), row_own h4.1 hg (fun r e => (hr r e).2), row_own h4.2 hg (fun r e => (hr r e).2)⟩) (ownFrom_below (Nat.le_refl _) (by omega)))
      ⟨⟨(fun y hy => by cases hy), by omega, H33.out⟩, HB3.out⟩
      (fun x a' W => ∃ Bx, S2 + 1 ≤ Bx ∧ W.heap[Bx]? = some (.cells #[.int .i64 x.1.2.1, .int .i64 x.1.2.2.1, .string x.1.2.2.2] 28 (0, 0)) ∧ a' = { tmps := #[ringV cap first ra rl rc ca cl cc, .int .i64 at', .pointer (some ⟨w.heap.size, 0, none⟩), .pointer (some ⟨w.heap.size + 1, 0, none⟩), .pointer (some ⟨w.heap.size + 1 + 1, 0, none⟩), .pointer (some ⟨b, 0, none⟩), .int .i64 x.1.1, .pointer (some ⟨Bx, 0, none⟩), .agg #[.int .i64 cap, .int .i64 first, .slice ra rl rc, .slice ca cl cc], .pointer (some ⟨b, 0, none⟩), .pointer (some ⟨b, 0, none⟩), .bool true, .bool false, undef, .pointer (some ⟨b, 0, none⟩), .func (.func 111) #[] #[.pointer (some ⟨S2, 0, none⟩)], .int .i64 x.1.1, recV x.1.2.1 x.1.2.2.1 x.1.2.2.2, undef, undef, undef, undef, undef, undef, undef, undef], defers := [] })
      (fun x a' s A B row hs hg hr => by obtain ⟨Bx, h1, h2, h3⟩ := hs; exact ⟨Bx, h1, heap_own h2 hg (fun r e => (hr r e).2), h3⟩)
      ?assign ?body ?done ?stop
    case assign =>
      rintro l pre x W K ⟨⟨hp, hz, h3⟩, hB⟩ hK
      gi_wp2
      exact hK _ _ ((KeepsOthers.alloc _ _).from _) ((Below.refl _ W).alloc hz _) ⟨⟨hp, by simp; omega, h3.below (below_new _ _)⟩, hB.alloc (by omega) _⟩ ⟨W.heap.size, hz, heap_alloc_new _ _, rfl⟩
    case body =>
      rintro l pre ⟨⟨pl, k, t, dd⟩, hd⟩ a' W _ _ ⟨⟨hp, hz, h3⟩, hB⟩ ⟨Bx, hBx, hX, rfl⟩ _
      have H3 : Hid (B3 w W (ringObj cap first ra rl rc ca cl cc) (atObj at') outObj0) := h3
      have HB : Hid (Below w.heap.size w W) := hB
      have HX : Hid _ := hX
      have HP : Hid (NotAt at' pre) := hp
      have cX := fun o => cell_of_block0 hX o
      have cA := fun o => cell_of_block0 h3.b1 o
      have cR := fun o => cell_of_block0 h3.b0 o
      have h1 : 1 ≤ 9 - 1 - 1 := by omega
      clear h3 hB hX hp
      by_cases hat : pl = at'
      · have hpe : (pl == at') = true := by simp [hat]
        have hmx : Tryz.prog.follows .mixedOrders = true := by kernel_rfl
        have hzb : w.heap.size + 1 + 1 < S2 + 1 := by omega
        gi_wp2
        gi_region_with_o (first | (refine ⟨trivial, ?_⟩; gi_at_call 50; refine (CallsIn.inRound l (callsIn_wide.2 (HC.out _ HB.out.drew))).mono ?_; rintro e w5 ⟨a5, q5, c5, p5, rfl, ho5, hb5⟩; have HO5 : Hid (OwnRing w5 (S2 + 1) a5 rl q5 c5 cl p5 (recs.map Value.string) (curCells curs)) := ⟨ho5.1.mono hz, ho5.2.mono hz⟩; have HW5 : Hid (Below W.heap.size W w5) := below_tr ((Below.refl _ _).drew) hb5; have cX := fun o => cell_of_block0 (blk HX.out HW5.out) o; have cO := fun o => cell_of_block0 (blk H3.out.b2 HW5.out) o; have fO := fun o => unfrozen_of_block0 (blk H3.out.b2 HW5.out) o; clear ho5 hb5))
        all_goals gi_wp2
        all_goals exact ⟨(KeepsFrom.of_grownBy (grown_of_below HW5.out none) (fun j e => by cases e)).trans ((set8_keeps w5 (w.heap.size + 1 + 1) _ _ _ _ _ _ _ _).from _), ⟨rfl, ⟨(pl, k, t, dd), hd⟩, a5, q5, c5, p5, List.mem_append.2 (.inr (List.mem_singleton.2 rfl)), hat, at_box (blk H3.out.b2 HW5.out), own_set8 HO5.out.1 _ hzb _ _ _ _ _ _ _ _, own_set8 HO5.out.2 _ hzb _ _ _ _ _ _ _ _⟩, below_set8 (below_tr HB.out HW5.out) _ (by omega) _ _ _ _ _ _ _ _⟩
      · have hpe : (pl == at') = false := by simp [hat]
        gi_wp2
        exact ⟨(KeepsOthers.refl _).from _, Below.refl _ _, ⟨notAt_snoc HP.out hat, hz, H3.out⟩, HB.out⟩
    case done =>
      rintro D ys W hD rfl ⟨⟨hp, hz, h3⟩, hB⟩ hK
      have hE : Hid (atR cap first recs curs at' = RO.ill 8) := HF2.out.trans (if_pos (at_out hp))
      have cO := fun o => cell_of_block0 h3.b2 o
      have fO := fun o => unfrozen_of_block0 h3.b2 o
      have H3 : Hid (B3 w W (ringObj cap first ra rl rc ca cl cc) (atObj at') outObj0) := h3
      clear h3 hp
      gi_wp2
      have hK' := (set8_keeps W (w.heap.size + 1 + 1) (.int .i64 0) (.int .i64 0) (.slice none 0 0) (.slice none 0 0) (.int .i64 0) (.int .i64 0) (.string ⟨#[]⟩) (.int .i64 8)).same D _ hK rfl
      refine ⟨by simp, .inl ⟨_, _, rfl, run_takeDeferred hK', ?_⟩⟩
      have hbx := heap_own (at_box (v0 := .int .i64 0) (v1 := .int .i64 0) (v2 := .slice none 0 0) (v3 := .slice none 0 0) (v4 := .int .i64 0) (v5 := .int .i64 0) (v6 := .string ⟨#[]⟩) (v7 := .int .i64 8) H3.out.b2) (grownBy_putObj' _ D (.deferred none)) (fun r e => by cases e; exact ⟨_, hK', rfl⟩)
      have cx := fun o => cell_of_block0 hbx o
      refine ⟨ringIll 8, by simp [results, Tryz.results18, go_sem, cx], ?_⟩
      rw [hE.out]
      exact ans_ill0 8 ((below_set8 hB _ (by omega) _ _ _ _ _ _ _ _).trans (belowK_b (w := w) (Nat.le_refl _) _ D _ _ (by omega) hK' rfl rfl))
    case stop =>
      rintro D c pre W hD ⟨k, hk, rfl⟩ ⟨⟨rfl, y, a, q, c', p, hy, hyat, hbx, hown⟩, hB⟩ hK
      obtain ⟨hin, e1, e2, e3⟩ := at_in hk hy hyat
      have hE : Hid (atR cap first recs curs at' = ⟨cap, first, recs, curs, y.1.2.1, y.1.2.2.1, y.1.2.2.2, 0⟩) := by
        rw [e1, e2, e3]
        exact HF2.out.trans (if_neg (by simp only [Decidable.not_not]; exact hin))
      gi_wp2
      refine ⟨by simp, .inl ⟨_, _, rfl, run_takeDeferred hK, ?_⟩⟩
      have hg := grownBy_putObj' W D (.deferred none)
      have hr : ∀ r, some D = some r → ∃ o : Obj, W.heap[r]? = some o ∧ o.isCells = false := fun r e => by cases e; exact ⟨_, hK, rfl⟩
      have cx := fun o => cell_of_block0 (heap_own hbx hg hr) o
      refine ⟨ringOutV cap first a rl q c' cl p y.1.2.1 y.1.2.2.1 y.1.2.2.2 0, by simp [results, Tryz.results18, go_sem, cx], ?_⟩
      rw [hE.out]
      have hl := HL.out
      have hrr := HRL.out
      subst hl hrr
      exact ⟨a, q, c', p, rfl, ⟨(row_own hown.1 hg hr).mono (by omega), (row_own hown.2 hg hr).mono (by omega)⟩, hB.trans (belowK_b (w := w) (Nat.le_refl _) W D _ _ (by omega) hK rfl rfl)⟩
end Go.Proofs.YtbbaghlmialaoaaGreatDoor
