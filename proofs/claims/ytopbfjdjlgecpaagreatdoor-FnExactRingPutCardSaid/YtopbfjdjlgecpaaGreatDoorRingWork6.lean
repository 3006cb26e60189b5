import Derived.Test.YtopbfjdjlgecpaaGreatDoorRingWork
import Derived.Laws.OwnMore
/- A ring at work: the least place, reckoned once. -/
namespace Go.Proofs.YtopbfjdjlgecpaaGreatDoor
open Go.RowKit
variable {cap first : Int} {ra ca : Option Addr} {rl rc cl cc : Nat}

theorem below_dn {B : Nat} {a w : World} (h : Below B a w) (n : Nat) : Below B a (w.drewN n) := ⟨h.os, h.tape, h.output, h.size, h.block⟩
theorem foldl_min_snoc (l : List (Int × Int)) (x : Int × Int) (n : Int) : (l ++ [x]).foldl (fun n x => min n x.2) n = min (l.foldl (fun n x => min n x.2) n) x.2 := by simp
theorem take_ne {l : List (Int × Int)} {k : Nat} (h0 : 0 < k) (hl : k ≤ l.length) : l.take k ≠ [] := by
  intro e
  have h := congrArg List.length e
  rw [List.length_take, List.length_nil] at h
  omega
theorem curLeast_one (first : Int) (c : Int × Int) : curLeast first [c] = c.2 := by simp [curLeast]
theorem curLeast_snoc (first : Int) (l : List (Int × Int)) (x : Int × Int) (h : l ≠ []) : curLeast first (l ++ [x]) = min (curLeast first l) x.2 := by
  cases l with
  | nil => exact absurd rfl h
  | cons c r =>
    show (c :: (r ++ [x])).foldl _ _ = _
    rw [← List.cons_append, foldl_min_snoc]
    rfl
theorem Work.set7 {w : World} {b : Nat} {d st l : Int} (h : Work w b cap first ra rl rc ca cl cc d st l) (l' : Int) : Work (w.setCell ⟨b, 7, none⟩ (.int .i64 l')) b cap first ra rl rc ca cl cc d st l' :=
  heap_setCell_same _ _ 7 _ _ _ h
theorem Work.set5 {w : World} {b : Nat} {d st l : Int} (h : Work w b cap first ra rl rc ca cl cc d st l) (st' : Int) : Work (w.setCell ⟨b, 5, none⟩ (.int .i32 st')) b cap first ra rl rc ca cl cc d st' l :=
  heap_setCell_same _ _ 5 _ _ _ h
theorem Work.set4 {w : World} {b : Nat} {d st l : Int} (h : Work w b cap first ra rl rc ca cl cc d st l) (d' : Int) : Work (w.setCell ⟨b, 4, none⟩ (.int .u32 d')) b cap first ra rl rc ca cl cc d' st l :=
  heap_setCell_same _ _ 4 _ _ _ h
/-- A slice of cursors, its block being another than b. -/
def Off (b : Nat) (a : Option Addr) : Prop := ∀ x, a = some x → x.block ≠ b
theorem curs_grown {w w' : World} {a : Option Addr} {n b : Nat} {l : List (Int × Int)} (h : Curs w a n l) (hg : w.grownBy w' (some b)) (ho : Off b a) : Curs w' a n l :=
  ⟨h.1, fun i hi => by
    obtain ⟨bb, off, e, hc, hd⟩ := h.2 i hi
    have hne : some bb ≠ some b := fun e' => ho _ e (by simpa using e')
    exact ⟨bb, off, e, hg.cell hc hne, hg.cell hd hne⟩⟩
theorem strs_grown {w w' : World} {a : Option Addr} {n b : Nat} {l : List ByteArray} (h : Strs w a n l) (hg : w.grownBy w' (some b)) (ho : Off b a) : Strs w' a n l :=
  ⟨h.1, fun i hi => by
    obtain ⟨bb, off, e, hc⟩ := h.2 i hi
    have hne : some bb ≠ some b := fun e' => ho _ e (by simpa using e')
    exact ⟨bb, off, e, hg.cell hc hne⟩⟩

set_option maxRecDepth 100000 in
set_option maxHeartbeats 2000000 in
theorem impl_reckon (b : Nat) (d st l : Int) (curs : List (Int × Int)) (w : World) (hw : Work w b cap first ra rl rc ca cl cc d st l) (hc : Curs w ca cl curs) (ho : Off b ca) (hcl : cl ≤ 1048576) :
    Calls Tryz.prog 121 #[.pointer (some ⟨b, 0, none⟩)] w fun e w' => e = .returned (.tuple #[]) ∧ Work w' b cap first ra rl rc ca cl cc d st (curLeast first curs) ∧ w.grownBy w' (some b) := by
  obtain ⟨c0, c1, c2, c3, c4, c5, c6, c7⟩ := work_cells hw
  have hf := hw.frozen
  have HW : Hid (Work w b cap first ra rl rc ca cl cc d st l) := hw
  have HC : Hid (Curs w ca cl curs) := hc
  have hlen : curs.length = cl := hc.1
  clear hw hc
  go_enter Tryz.func121, Tryz.ntmps121
  go_wp2
  go_loopw [18] (fun i wr => ∃ k : Nat, k ≤ cl ∧ i = .int .i64 k ∧ Hid (Work wr b cap first ra rl rc ca cl cc d st (curLeast first (curs.take k))) ∧ Hid (w.grownBy wr (some b))) (fun i _ => cl - (intOf i).toNat)
  case atStart => exact ⟨0, by omega, rfl, HW.out.set7 first, grown_setc w b 7 _⟩
  case round =>
    obtain ⟨k, hk, rfl, hwr, hgr⟩ := hrel
    by_cases hlt : k < cl
    · obtain ⟨bc, oc, hca, hg1, ha1⟩ := (curs_grown HC.out hgr.out ho).2 k (by omega)
      have hne : bc ≠ b := ho _ hca
      subst hca
      obtain ⟨G, A, hGA⟩ : ∃ G A, curs[k] = (G, A) := ⟨_, _, rfl⟩
      rw [hGA] at hg1 ha1
      have hbc : bc < wr.heap.size := World.block_lt_of_cell? wr ⟨bc, oc + k * 2, none⟩ hg1
      have hbw : b < wr.heap.size := hwr.out.lt
      obtain ⟨d0, d1, d2, d3, d4, d5, d6, d7⟩ := work_cells hwr.out
      have hf7 := hwr.out.frozen 7
      obtain ⟨L, hL⟩ : ∃ L, curLeast first (curs.take k) = L := ⟨_, rfl⟩
      have hW : Hid (Work wr b cap first ra rl rc (some ⟨bc, oc, none⟩) cl cc d st L) := by rw [← hL]; exact hwr.out
      rw [hL] at d7
      have hN : k = 0 ∨ A < L → Hid (curLeast first (curs.take (k + 1)) = A) := fun h => show _ = _ by
        rw [List.take_succ_eq_append_getElem (by omega), hGA]
        rcases h with h | h
        · subst h; simp [curLeast]
        · by_cases h0 : k = 0
          · subst h0; simp [curLeast]
          · rw [curLeast_snoc _ _ _ (take_ne (by omega) (by omega)), hL]; show min L A = A; omega
      have hS : ¬ k = 0 → ¬ A < L → Hid (curLeast first (curs.take (k + 1)) = L) := fun h0 h => show _ = _ by
        rw [List.take_succ_eq_append_getElem (by omega), hGA, curLeast_snoc _ _ _ (take_ne (by omega) (by omega)), hL]; show min L A = L; omega
      clear hGA hL hwr
      by_cases hk0 : k = 0
      · have hE := hN (.inl hk0)
        have ht : ((k : Int) == 0) = true := by simp [hk0]
        clear hN hS hk0
        go_wp2
        go_quiet (fail)
        go_wp2
        have hb1 : Below wr.heap.size wr ((wr.alloc (.cells #[.int .i64 G, .int .i64 A] 47)).drewN nq) := below_dn ((Below.refl _ _).alloc (Nat.le_refl _) _) nq
        exact ⟨⟨k + 1, by omega, by go_num, by rw [hE.out]; exact (hW.out.below hb1).set7 A, (hgr.out.trans ((grown_of_below hb1 _))).trans (grown_setc _ b 7 _)⟩, by simp [intOf]; omega⟩
      · have ht : ((k : Int) == 0) = false := by rw [beq_eq_false_iff_ne]; omega
        by_cases hAL : A < L
        · have hE := hN (.inr hAL)
          clear hN hS hk0
          go_wp2
          go_quiet (fail)
          go_wp2
          have hb1 : Below wr.heap.size wr ((wr.alloc (.cells #[.int .i64 G, .int .i64 A] 47)).drewN nq) := below_dn ((Below.refl _ _).alloc (Nat.le_refl _) _) nq
          exact ⟨⟨k + 1, by omega, by go_num, by rw [hE.out]; exact (hW.out.below hb1).set7 A, (hgr.out.trans ((grown_of_below hb1 _))).trans (grown_setc _ b 7 _)⟩, by simp [intOf]; omega⟩
        · have hE := hS hk0 hAL
          clear hN hS hk0
          go_wp2
          go_quiet (fail)
          go_wp2
          have hb1 : Below wr.heap.size wr ((wr.alloc (.cells #[.int .i64 G, .int .i64 A] 47)).drewN nq) := below_dn ((Below.refl _ _).alloc (Nat.le_refl _) _) nq
          exact ⟨⟨k + 1, by omega, by go_num, by rw [hE.out]; exact hW.out.below hb1, hgr.out.trans ((grown_of_below hb1 _))⟩, by simp [intOf]; omega⟩
    · obtain rfl : k = cl := by omega
      have hE : Hid (Work wr b cap first ra rl rc ca k cc d st (curLeast first curs)) := by
        have h := hwr.out
        rw [List.take_of_length_le (by omega)] at h
        exact h
      go_wp2
      go_end0
      exact ⟨rfl, hE.out, hgr.out⟩
/-- The least place has been reckoned, or not yet. -/
def Known (first : Int) (curs : List (Int × Int)) (d l : Int) : Prop := d = 0 ∨ (d = 1 ∧ l = curLeast first curs)
set_option maxRecDepth 100000 in
set_option maxHeartbeats 2000000 in
theorem impl_least_0 (b : Nat) (l : Int) (curs : List (Int × Int)) (w : World) (hw : Work w b cap first ra rl rc ca cl cc 0 0 l) (hc : Curs w ca cl curs) (ho : Off b ca) (hcl : cl ≤ 1048576) :
    Calls Tryz.prog 98 #[.pointer (some ⟨b, 0, none⟩)] w fun e w' => e = .returned (.int .i64 (curLeast first curs)) ∧ Work w' b cap first ra rl rc ca cl cc 1 0 (curLeast first curs) ∧ w.grownBy w' (some b) := by
  obtain ⟨c0, c1, c2, c3, c4, c5, c6, c7⟩ := work_cells hw
  have hf := hw.frozen
  have hmf : ∀ (fn : Fn) (first cap : Array Value) (w : World), (Instr.makeFunc fn first cap).run Tryz.prog w = .ok (.func fn first cap) w := fun _ _ _ _ => rfl
  have HD : Hid _ := fun (_ : Unit) => do_first b 4 ⟨b, 0, none⟩ w (fun w1 => Work w1 b cap first ra rl rc ca cl cc 0 1 (curLeast first curs) ∧ w.grownBy w1 (some b)) c4 c5 (hf 4) (hf 5)
    ((impl_reckon b 0 1 l curs _ (hw.set5 1) (curs_grown hc (grown_setc _ _ _ _) ho) ho hcl).mono (fun e w' h => ⟨h.1, h.2.1, (grown_setc _ _ _ _).trans h.2.2⟩))
    (fun w' h => ⟨⟨h.1.cell 4, h.1.cell 5⟩, h.1.frozen 4, h.1.frozen 5⟩)
  clear hw hc
  go_enter Tryz.func98, Tryz.ntmps98
  go_wp2_with fail
  refine (HD.out ()).mono ?_
  rintro e w' ⟨rfl, w1, ⟨hW1, hg1⟩, rfl⟩
  have hW2 : Hid (Work ((w1.drew.setCell ⟨b, 4, none⟩ (.int .u32 1)).setCell ⟨b, 5, none⟩ (.int .i32 0)) b cap first ra rl rc ca cl cc 1 0 (curLeast first curs)) := Work.set5 (Work.set4 (w := w1.drew) hW1 1) 0
  have hg2 : Hid (w.grownBy ((w1.drew.setCell ⟨b, 4, none⟩ (.int .u32 1)).setCell ⟨b, 5, none⟩ (.int .i32 0)) (some b)) := ((hg1.trans (grown_drewc _ _)).trans (grown_setc _ _ _ _)).trans (grown_setc _ _ _ _)
  have h7 := hW2.out.cell 7
  obtain ⟨w3, hw3⟩ : ∃ w3, (w1.drew.setCell ⟨b, 4, none⟩ (.int .u32 1)).setCell ⟨b, 5, none⟩ (.int .i32 0) = w3 := ⟨_, rfl⟩
  rw [hw3] at hW2 hg2 h7 ⊢
  have h7' : w3.cell? ⟨b, 7, none⟩ = some (.int .i64 (curLeast first curs)) := h7
  clear hW1 hg1 hw3 h7 hf c0 c1 c2 c3 c4 c5 c6 c7
  go_wp2
  go_ret
  exact ⟨rfl, hW2.out, hg2.out⟩
set_option maxRecDepth 100000 in
set_option maxHeartbeats 2000000 in
theorem impl_least_1 (b : Nat) (l : Int) (w : World) (hw : Work w b cap first ra rl rc ca cl cc 1 0 l) :
    Calls Tryz.prog 98 #[.pointer (some ⟨b, 0, none⟩)] w fun e w' => e = .returned (.int .i64 l) ∧ w' = w := by
  obtain ⟨c0, c1, c2, c3, c4, c5, c6, c7⟩ := work_cells hw
  have hmf : ∀ (fn : Fn) (first cap : Array Value) (w : World), (Instr.makeFunc fn first cap).run Tryz.prog w = .ok (.func fn first cap) w := fun _ _ _ _ => rfl
  clear hw
  go_enter Tryz.func98, Tryz.ntmps98
  go_wp2_with fail
  refine (do_done ⟨b, 4, none⟩ _ w c4).mono ?_
  rintro e w' ⟨rfl, rfl⟩
  go_wp2
  go_ret
  exact ⟨rfl, rfl⟩
theorem impl_least (b : Nat) (d l : Int) (curs : List (Int × Int)) (w : World) (hw : Work w b cap first ra rl rc ca cl cc d 0 l) (hk : Known first curs d l) (hc : Curs w ca cl curs) (ho : Off b ca) (hcl : cl ≤ 1048576) :
    Calls Tryz.prog 98 #[.pointer (some ⟨b, 0, none⟩)] w fun e w' => e = .returned (.int .i64 (curLeast first curs)) ∧ Work w' b cap first ra rl rc ca cl cc 1 0 (curLeast first curs) ∧ w.grownBy w' (some b) := by
  rcases hk with rfl | ⟨rfl, rfl⟩
  · exact impl_least_0 b l curs w hw hc ho hcl
  · exact (impl_least_1 b _ w hw).mono (fun e w' h => ⟨h.1, by rw [h.2]; exact hw, by rw [h.2]; exact grown_of_below (Below.refl _ _) _⟩)
end Go.Proofs.YtopbfjdjlgecpaaGreatDoor
/- A ring at work: whether its sizes are right. -/
namespace Go.Proofs.YtopbfjdjlgecpaaGreatDoor
open Go.RowKit
variable {cap first : Int} {ra ca : Option Addr} {rl rc cl cc : Nat}
def sizesB (cap first : Int) (rl cl : Nat) : Bool := capB cap && decide (0 ≤ first ∧ first ≤ 1000000) && decide ((rl : Int) ≤ cap) && decide (first + (rl : Int) ≤ 1000000) && decide (cl ≤ 4)
theorem capB_le {n : Int} (h : capB n = true) : 4 ≤ n ∧ n ≤ 16 := by simp [capB] at h; omega
set_option maxRecDepth 100000 in
set_option maxHeartbeats 4000000 in
theorem impl_sizesRight (b : Nat) (d st l : Int) (w : World) (hw : Work w b cap first ra rl rc ca cl cc d st l) (hl : rl ≤ 1048576) (hcl : cl ≤ 1048576) :
    Calls Tryz.prog 88 #[.pointer (some ⟨b, 0, none⟩)] w fun e w' => e = .returned (.bool (sizesB cap first rl cl)) ∧ Below w.heap.size w w' := by
  obtain ⟨c0, c1, c2, c3, c4, c5, c6, c7⟩ := work_cells hw
  have HW : Hid (Work w b cap first ra rl rc ca cl cc d st l) := hw
  have hlt := hw.lt
  have HC : Hid _ := fun w => impl_cap cap w
  have HT : Hid _ := fun w => impl_time first w
  clear hw
  by_cases h1 : capB cap = true
  · have hcb := capB_le h1
    rw [h1] at HC
    by_cases h2 : 0 ≤ first ∧ first ≤ 1000000
    · rw [decide_eq_true h2] at HT
      by_cases h3 : (rl : Int) ≤ cap
      · have HT2 : Hid _ := fun w => impl_time (first + (rl : Int)) w
        by_cases h4 : first + (rl : Int) ≤ 1000000
        · rw [decide_eq_true (show 0 ≤ first + (rl : Int) ∧ first + (rl : Int) ≤ 1000000 by omega)] at HT2
          have hE : Hid (sizesB cap first rl cl = decide ((cl : Int) ≤ 4)) := show _ = _ by
            rw [Bool.eq_iff_iff]
            simp [sizesB, h1, h2, h3, h4]
            omega
          clear h1
          go_enter Tryz.func88, Tryz.ntmps88
          go_wp2_with fail
          refine (HC.out _).mono ?_
          rintro e w1 ⟨rfl, hw1⟩
          rw [hw1]
          clear hw1 w1
          go_wp2_with fail
          refine (HT.out _).mono ?_
          rintro e w1 ⟨rfl, hw1⟩
          rw [hw1]
          clear hw1 w1
          go_wp2_with fail
          refine (impl_room b d st l _ HW.out (by omega) hl).mono ?_
          rintro e w1 ⟨rfl, hb1⟩
          have HW1 : Hid _ := HW.out.below hb1
          have hB1 : Hid (Below w.heap.size w w1) := hb1
          have hlt1 := Nat.lt_of_lt_of_le hlt hb1.size
          clear hb1
          go_wp2_with fail
          refine (impl_end b d st l _ HW1.out h2 hl).mono ?_
          rintro e w2 ⟨rfl, hb2⟩
          have d3 := (hb2.cell (p := ⟨b, 3, none⟩) hlt1).trans ((hB1.out.cell (p := ⟨b, 3, none⟩) hlt).trans c3)
          have hB2 : Hid (Below w.heap.size w w2) := below_tr hB1.out hb2
          clear hb2
          go_wp2_with fail
          refine (HT2.out _).mono ?_
          rintro e w3 ⟨rfl, hw1⟩
          rw [hw1]
          clear hw1 w3
          go_wp2
          go_ret
          exact ⟨ret_bool hE.out.symm, hB2.out⟩
        · rw [decide_eq_false (show ¬ (0 ≤ first + (rl : Int) ∧ first + (rl : Int) ≤ 1000000) by omega)] at HT2
          have hE : Hid (sizesB cap first rl cl = false) := show _ = _ by simp [sizesB, h4]
          clear h1
          go_enter Tryz.func88, Tryz.ntmps88
          go_wp2_with fail
          refine (HC.out _).mono ?_
          rintro e w1 ⟨rfl, hw1⟩
          rw [hw1]
          clear hw1 w1
          go_wp2_with fail
          refine (HT.out _).mono ?_
          rintro e w1 ⟨rfl, hw1⟩
          rw [hw1]
          clear hw1 w1
          go_wp2_with fail
          refine (impl_room b d st l _ HW.out (by omega) hl).mono ?_
          rintro e w1 ⟨rfl, hb1⟩
          have HW1 : Hid _ := HW.out.below hb1
          have hB1 : Hid (Below w.heap.size w w1) := hb1
          clear hb1
          go_wp2_with fail
          refine (impl_end b d st l _ HW1.out h2 hl).mono ?_
          rintro e w2 ⟨rfl, hb2⟩
          have hB2 : Hid (Below w.heap.size w w2) := below_tr hB1.out hb2
          clear hb2
          go_wp2_with fail
          refine (HT2.out _).mono ?_
          rintro e w3 ⟨rfl, hw1⟩
          rw [hw1]
          clear hw1 w3
          go_wp2
          go_ret
          exact ⟨ret_bool hE.out.symm, hB2.out⟩
      · have hE : Hid (sizesB cap first rl cl = false) := show _ = _ by simp [sizesB, h3]
        clear h1
        go_enter Tryz.func88, Tryz.ntmps88
        go_wp2_with fail
        refine (HC.out _).mono ?_
        rintro e w1 ⟨rfl, hw1⟩
        rw [hw1]
        clear hw1 w1
        go_wp2_with fail
        refine (HT.out _).mono ?_
        rintro e w1 ⟨rfl, hw1⟩
        rw [hw1]
        clear hw1 w1
        go_wp2_with fail
        refine (impl_room b d st l _ HW.out (by omega) hl).mono ?_
        rintro e w1 ⟨rfl, hb1⟩
        have hB1 : Hid (Below w.heap.size w w1) := hb1
        clear hb1
        go_wp2
        go_ret
        exact ⟨ret_bool hE.out.symm, hB1.out⟩
    · rw [decide_eq_false h2] at HT
      have hE : Hid (sizesB cap first rl cl = false) := show _ = _ by simp [sizesB, h2]
      clear h1 h2
      go_enter Tryz.func88, Tryz.ntmps88
      go_wp2_with fail
      refine (HC.out _).mono ?_
      rintro e w1 ⟨rfl, hw1⟩
      rw [hw1]
      clear hw1 w1
      go_wp2_with fail
      refine (HT.out _).mono ?_
      rintro e w1 ⟨rfl, hw1⟩
      rw [hw1]
      clear hw1 w1
      go_wp2
      go_ret
      exact ⟨ret_bool hE.out.symm, Below.refl _ _⟩
  · have h1' : capB cap = false := by simpa using h1
    rw [h1'] at HC
    have hE : Hid (sizesB cap first rl cl = false) := show _ = _ by simp [sizesB, h1']
    clear h1 h1'
    go_enter Tryz.func88, Tryz.ntmps88
    go_wp2_with fail
    refine (HC.out _).mono ?_
    rintro e w1 ⟨rfl, hw1⟩
    rw [hw1]
    clear hw1 w1
    go_wp2
    go_ret
    exact ⟨ret_bool hE.out.symm, Below.refl _ _⟩
end Go.Proofs.YtopbfjdjlgecpaaGreatDoor
