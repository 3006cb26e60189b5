import Derived.Test.YtahccighonddaaaGreatDoorOnce
import Derived.Test.YtahccighonddaaaGreatDoorRingMath
import Derived.Test.YtahccighonddaaaGreatDoorRecBytes
import Derived.Test.YtahccighonddaaaGreatDoorSrc
import Derived.Deep.RegionHeld3
import Derived.Deep.DeepCutAuto
import Derived.Maps.AppendAt
import Derived.Maps.Range
import Derived.Maps.RangeWalk
import Derived.BigQuiet
import Derived.Laws.OwnMore
import Derived.Deep.RegionWith
namespace Go.Proofs.YtahccighonddaaaGreatDoor
open Go.RowKit
variable {cap first : Int} {ra ca : Option Addr} {rl rc cl cc : Nat}
abbrev workCells (cap first : Int) (ra : Option Addr) (rl rc : Nat) (ca : Option Addr) (cl cc : Nat) (d st l : Int) : Array Value :=
  #[.int .i64 cap,.int .i64 first,.slice ra rl rc,.slice ca cl cc,.int .u32 d,.int .i32 st,.int .u32 0,.int .i64 l]
def Work (w : World) (b : Nat) (cap first : Int) (ra : Option Addr) (rl rc : Nat) (ca : Option Addr) (cl cc : Nat) (d st l : Int) : Prop :=
  w.heap[b]? = some (.cells (workCells cap first ra rl rc ca cl cc d st l) 198 (0,0))
theorem Work.cell {w : World} {b : Nat} {d st l : Int} (h : Work w b cap first ra rl rc ca cl cc d st l) (i : Nat) : w.cell? ⟨b,i,none⟩ = (workCells cap first ra rl rc ca cl cc d st l)[i]? := cell_of_heap h i
theorem Work.frozen {w : World} {b : Nat} {d st l : Int} (h : Work w b cap first ra rl rc ca cl cc d st l) (i : Nat) : w.frozen? ⟨b,i,none⟩ = false := frozen_of_heap h i
theorem Work.lt {w : World} {b : Nat} {d st l : Int} (h : Work w b cap first ra rl rc ca cl cc d st l) : b < w.heap.size := (Array.getElem?_eq_some_iff.1 h).1
theorem Work.below {w w' : World} {b : Nat} {d st l : Int} (h : Work w b cap first ra rl rc ca cl cc d st l) (hb : Below w.heap.size w w') : Work w' b cap first ra rl rc ca cl cc d st l := (hb.block b h.lt).trans h
theorem Work.grown {w w' : World} {b : Nat} {d st l : Int} {row : Option Nat} (h : Work w b cap first ra rl rc ca cl cc d st l) (hb : w.grownBy w' row) (hne : some b ≠ row) : Work w' b cap first ra rl rc ca cl cc d st l := (hb.block b h.lt hne).trans h
theorem work_cells {w : World} {b : Nat} {d st l : Int} (h : Work w b cap first ra rl rc ca cl cc d st l) :
    w.cell? ⟨b,0,none⟩ = some (.int .i64 cap) ∧ w.cell? ⟨b,1,none⟩ = some (.int .i64 first) ∧ w.cell? ⟨b,2,none⟩ = some (.slice ra rl rc) ∧ w.cell? ⟨b,3,none⟩ = some (.slice ca cl cc) ∧
      w.cell? ⟨b,4,none⟩ = some (.int .u32 d) ∧ w.cell? ⟨b,5,none⟩ = some (.int .i32 st) ∧ w.cell? ⟨b,6,none⟩ = some (.int .u32 0) ∧ w.cell? ⟨b,7,none⟩ = some (.int .i64 l) :=
  ⟨h.cell 0,h.cell 1,h.cell 2,h.cell 3,h.cell 4,h.cell 5,h.cell 6,h.cell 7⟩
theorem grown_of_below {w w' : World} (h : Below w.heap.size w w') (row : Option Nat) : w.grownBy w' row := ⟨h.os,h.tape,h.output,h.size,fun k hk _ => h.block k hk⟩
theorem below_of_grown {w w' : World} (h : w.grownBy w' none) : Below w.heap.size w w' := ⟨h.os,h.tape,h.output,h.size,fun k hk => h.block k hk (by simp)⟩
theorem grown_setc (w : World) (b i : Nat) (v : Value) : w.grownBy (w.setCell ⟨b,i,none⟩ v) (some b) :=
  ⟨rfl,rfl,rfl,by simp [World.setCell],fun k _ hk => Below.heap_setCell _ _ _ _ (fun e => hk (by rw [e]))⟩
theorem grown_drewc (w : World) (row : Option Nat) : w.grownBy w.drew row := ⟨rfl,rfl,rfl,Nat.le_refl _,fun _ _ _ => rfl⟩
theorem impl_atWork (w : World) :
    Calls Tryz.prog 107 #[ringV cap first ra rl rc ca cl cc] w fun e w' => e = .returned (.pointer (some ⟨w.heap.size + 1,0,none⟩)) ∧ Below w.heap.size w w' ∧ Work w' (w.heap.size + 1) cap first ra rl rc ca cl cc 0 0 0 ∧ w'.heap.size = w.heap.size + 2 := by
  go_enter Tryz.func107,Tryz.ntmps107
  go_wp2
  go_ret
  refine ⟨rfl,((Below.refl _ _).alloc (Nat.le_refl _) _).alloc (by simp) _,?_,by simp⟩
  have h := heap_alloc_new (w.alloc (ringObj cap first ra rl rc ca cl cc)) (.cells (workCells cap first ra rl rc ca cl cc 0 0 0) 198 (0,0))
  rw [World.size_alloc] at h
  exact h
theorem impl_end (b : Nat) (d st l : Int) (w : World) (hw : Work w b cap first ra rl rc ca cl cc d st l) (h : 0 ≤ first ∧ first ≤ 1000000) (hl : rl ≤ 1048576) :
    Calls Tryz.prog 145 #[.pointer (some ⟨b,0,none⟩)] w fun e w' => e = .returned (.int .i64 (first + (rl : Int))) ∧ Below w.heap.size w w' := by
  obtain ⟨c0,c1,c2,c3,c4,c5,c6,c7⟩ := work_cells hw
  go_enter Tryz.func145,Tryz.ntmps145
  go_wp2
  go_region
  all_goals go_wp2
  all_goals go_ret
  all_goals exact ⟨rfl,(Below.refl _ _).drew⟩
theorem impl_room (b : Nat) (d st l : Int) (w : World) (hw : Work w b cap first ra rl rc ca cl cc d st l) (h : -100 ≤ cap ∧ cap ≤ 100) (hl : rl ≤ 1048576) :
    Calls Tryz.prog 144 #[.pointer (some ⟨b,0,none⟩)] w fun e w' => e = .returned (.int .i64 (cap - (rl : Int))) ∧ Below w.heap.size w w' := by
  obtain ⟨c0,c1,c2,c3,c4,c5,c6,c7⟩ := work_cells hw
  go_enter Tryz.func144,Tryz.ntmps144
  go_wp2
  go_region
  all_goals go_wp2
  all_goals go_ret
  all_goals exact ⟨rfl,(Below.refl _ _).drew⟩
theorem impl_cap (n : Int) (w : World) : Calls Tryz.prog 208 #[.int .i64 n] w fun e w' => e = .returned (.bool (capB n)) ∧ w' = w := by
  by_cases h1 : n = 4
  · subst h1
    go_enter Tryz.func208,Tryz.ntmps208
    go_wp2
    go_ret
    exact ⟨rfl,rfl⟩
  by_cases h2 : n = 8
  · subst h2
    go_enter Tryz.func208,Tryz.ntmps208
    go_wp2
    go_ret
    exact ⟨rfl,rfl⟩
  have e1 : (n == 4) = false := by rw [beq_eq_false_iff_ne]; exact h1
  have e2 : (n == 8) = false := by rw [beq_eq_false_iff_ne]; exact h2
  clear h1 h2
  go_enter Tryz.func208,Tryz.ntmps208
  go_wp2
  go_ret
  exact ⟨ret_bool (by simp [capB,e1,e2]),rfl⟩
theorem impl_time (n : Int) (w : World) : Calls Tryz.prog 185 #[.int .i64 n] w fun e w' => e = .returned (.bool (decide (0 ≤ n ∧ n ≤ 1000000))) ∧ w' = w := by
  by_cases h1 : 0 ≤ n
  · go_enter Tryz.func185,Tryz.ntmps185
    go_wp2
    go_ret
    exact ⟨ret_bool (by simp [h1]),rfl⟩
  · go_enter Tryz.func185,Tryz.ntmps185
    go_wp2
    go_ret
    exact ⟨ret_bool (by simp; omega),rfl⟩
theorem impl_group (n : Int) (w : World) : Calls Tryz.prog 109 #[.int .i64 n] w fun e w' => e = .returned (.bool (decide (1 ≤ n ∧ n ≤ 9))) ∧ w' = w := by
  by_cases h1 : 1 ≤ n
  · go_enter Tryz.func109,Tryz.ntmps109
    go_wp2
    go_ret
    exact ⟨ret_bool (by simp [h1]),rfl⟩
  · go_enter Tryz.func109,Tryz.ntmps109
    go_wp2
    go_ret
    exact ⟨ret_bool (by simp; omega),rfl⟩
theorem impl_groupOf (g a : Int) (w : World) : Calls Tryz.prog 165 #[.agg #[.int .i64 g,.int .i64 a]] w fun e w' => e = .returned (.int .i64 g) ∧ Below w.heap.size w w' := by
  go_enter Tryz.func165,Tryz.ntmps165
  go_wp2
  go_ret
  exact ⟨rfl,(Below.refl _ _).alloc (Nat.le_refl _) _⟩
end Go.Proofs.YtahccighonddaaaGreatDoor
namespace Go.Proofs.YtahccighonddaaaGreatDoor
open Go.RowKit
variable {cap first : Int} {ra ca : Option Addr} {rl rc cl cc : Nat}
theorem below_dn {B : Nat} {a w : World} (h : Below B a w) (n : Nat) : Below B a (w.drewN n) := ⟨h.os,h.tape,h.output,h.size,h.block⟩
theorem foldl_min_snoc (l : List (Int × Int)) (x : Int × Int) (n : Int) : (l ++ [x]).foldl (fun n x => min n x.2) n = min (l.foldl (fun n x => min n x.2) n) x.2 := by simp
theorem take_ne {l : List (Int × Int)} {k : Nat} (h0 : 0 < k) (hl : k ≤ l.length) : l.take k ≠ [] := by
  intro e
  have h := congrArg List.length e
  rw [List.length_take,List.length_nil] at h
  omega
theorem curLeast_snoc (first : Int) (l : List (Int × Int)) (x : Int × Int) (h : l ≠ []) : curLeast first (l ++ [x]) = min (curLeast first l) x.2 := by
  cases l with
  | nil => exact absurd rfl h
  | cons c r =>
    show (c :: (r ++ [x])).foldl _ _ = _
    rw [← List.cons_append,foldl_min_snoc]
    rfl
theorem Work.set7 {w : World} {b : Nat} {d st l : Int} (h : Work w b cap first ra rl rc ca cl cc d st l) (l' : Int) : Work (w.setCell ⟨b,7,none⟩ (.int .i64 l')) b cap first ra rl rc ca cl cc d st l' :=
  heap_setCell_same _ _ 7 _ _ _ h
theorem Work.set5 {w : World} {b : Nat} {d st l : Int} (h : Work w b cap first ra rl rc ca cl cc d st l) (st' : Int) : Work (w.setCell ⟨b,5,none⟩ (.int .i32 st')) b cap first ra rl rc ca cl cc d st' l :=
  heap_setCell_same _ _ 5 _ _ _ h
theorem Work.set4 {w : World} {b : Nat} {d st l : Int} (h : Work w b cap first ra rl rc ca cl cc d st l) (d' : Int) : Work (w.setCell ⟨b,4,none⟩ (.int .u32 d')) b cap first ra rl rc ca cl cc d' st l :=
  heap_setCell_same _ _ 4 _ _ _ h
def Off (b : Nat) (a : Option Addr) : Prop := ∀ x,a = some x → x.block ≠ b
theorem curs_grown {w w' : World} {a : Option Addr} {n b : Nat} {l : List (Int × Int)} (h : Curs w a n l) (hg : w.grownBy w' (some b)) (ho : Off b a) : Curs w' a n l :=
  ⟨h.1,fun i hi => by
    obtain ⟨bb,off,e,hc,hd⟩ := h.2 i hi
    have hne : some bb ≠ some b := fun e' => ho _ e (by simpa using e')
    exact ⟨bb,off,e,hg.cell hc hne,hg.cell hd hne⟩⟩
theorem strs_grown {w w' : World} {a : Option Addr} {n b : Nat} {l : List ByteArray} (h : Strs w a n l) (hg : w.grownBy w' (some b)) (ho : Off b a) : Strs w' a n l :=
  ⟨h.1,fun i hi => by
    obtain ⟨bb,off,e,hc⟩ := h.2 i hi
    have hne : some bb ≠ some b := fun e' => ho _ e (by simpa using e')
    exact ⟨bb,off,e,hg.cell hc hne⟩⟩
set_option maxRecDepth 100000 in
set_option maxHeartbeats 2000000 in
theorem impl_reckon (b : Nat) (d st l : Int) (curs : List (Int × Int)) (w : World) (hw : Work w b cap first ra rl rc ca cl cc d st l) (hc : Curs w ca cl curs) (ho : Off b ca) (hcl : cl ≤ 1048576) :
    Calls Tryz.prog 215 #[.pointer (some ⟨b,0,none⟩)] w fun e w' => e = .returned (.tuple #[]) ∧ Work w' b cap first ra rl rc ca cl cc d st (curLeast first curs) ∧ w.grownBy w' (some b) := by
  obtain ⟨c0,c1,c2,c3,c4,c5,c6,c7⟩ := work_cells hw
  have hf := hw.frozen
  have HW : Hid (Work w b cap first ra rl rc ca cl cc d st l) := hw
  have HC : Hid (Curs w ca cl curs) := hc
  have hlen : curs.length = cl := hc.1
  clear hw hc
  go_enter Tryz.func215,Tryz.ntmps215
  go_wp2
  go_loopw [18] (fun i wr => ∃ k : Nat,k ≤ cl ∧ i = .int .i64 k ∧ Hid (Work wr b cap first ra rl rc ca cl cc d st (curLeast first (curs.take k))) ∧ Hid (w.grownBy wr (some b))) (fun i _ => cl - (intOf i).toNat)
  case atStart => exact ⟨0,by omega,rfl,HW.out.set7 first,grown_setc w b 7 _⟩
  case round =>
    obtain ⟨k,hk,rfl,hwr,hgr⟩ := hrel
    by_cases hlt : k < cl
    · obtain ⟨bc,oc,hca,hg1,ha1⟩ := (curs_grown HC.out hgr.out ho).2 k (by omega)
      have hne : bc ≠ b := ho _ hca
      subst hca
      obtain ⟨G,A,hGA⟩ : ∃ G A,curs[k] = (G,A) := ⟨_,_,rfl⟩
      rw [hGA] at hg1 ha1
      have hbc : bc < wr.heap.size := World.block_lt_of_cell? wr ⟨bc,oc + k * 2,none⟩ hg1
      have hbw : b < wr.heap.size := hwr.out.lt
      obtain ⟨d0,d1,d2,d3,d4,d5,d6,d7⟩ := work_cells hwr.out
      have hf7 := hwr.out.frozen 7
      obtain ⟨L,hL⟩ : ∃ L,curLeast first (curs.take k) = L := ⟨_,rfl⟩
      have hW : Hid (Work wr b cap first ra rl rc (some ⟨bc,oc,none⟩) cl cc d st L) := by rw [← hL]; exact hwr.out
      rw [hL] at d7
      have hN : k = 0 ∨ A < L → Hid (curLeast first (curs.take (k + 1)) = A) := fun h => show _ = _ by
        rw [List.take_succ_eq_append_getElem (by omega),hGA]
        rcases h with h | h
        · subst h; simp [curLeast]
        · by_cases h0 : k = 0
          · subst h0; simp [curLeast]
          · rw [curLeast_snoc _ _ _ (take_ne (by omega) (by omega)),hL]; show min L A = A; omega
      have hS : ¬ k = 0 → ¬ A < L → Hid (curLeast first (curs.take (k + 1)) = L) := fun h0 h => show _ = _ by
        rw [List.take_succ_eq_append_getElem (by omega),hGA,curLeast_snoc _ _ _ (take_ne (by omega) (by omega)),hL]; show min L A = L; omega
      clear hGA hL hwr
      by_cases hk0 : k = 0
      · have hE := hN (.inl hk0)
        have ht : ((k : Int) == 0) = true := by simp [hk0]
        clear hN hS hk0
        go_wp2
        go_quiet (fail)
        go_wp2
        have hb1 : Below wr.heap.size wr ((wr.alloc (.cells #[.int .i64 G,.int .i64 A] 96)).drewN nq) := below_dn ((Below.refl _ _).alloc (Nat.le_refl _) _) nq
        exact ⟨⟨k + 1,by omega,by go_num,by rw [hE.out]; exact (hW.out.below hb1).set7 A,(hgr.out.trans ((grown_of_below hb1 _))).trans (grown_setc _ b 7 _)⟩,by simp [intOf]; omega⟩
      · have ht : ((k : Int) == 0) = false := by rw [beq_eq_false_iff_ne]; omega
        by_cases hAL : A < L
        · have hE := hN (.inr hAL)
          clear hN hS hk0
          go_wp2
          go_quiet (fail)
          go_wp2
          have hb1 : Below wr.heap.size wr ((wr.alloc (.cells #[.int .i64 G,.int .i64 A] 96)).drewN nq) := below_dn ((Below.refl _ _).alloc (Nat.le_refl _) _) nq
          exact ⟨⟨k + 1,by omega,by go_num,by rw [hE.out]; exact (hW.out.below hb1).set7 A,(hgr.out.trans ((grown_of_below hb1 _))).trans (grown_setc _ b 7 _)⟩,by simp [intOf]; omega⟩
        · have hE := hS hk0 hAL
          clear hN hS hk0
          go_wp2
          go_quiet (fail)
          go_wp2
          have hb1 : Below wr.heap.size wr ((wr.alloc (.cells #[.int .i64 G,.int .i64 A] 96)).drewN nq) := below_dn ((Below.refl _ _).alloc (Nat.le_refl _) _) nq
          exact ⟨⟨k + 1,by omega,by go_num,by rw [hE.out]; exact hW.out.below hb1,hgr.out.trans ((grown_of_below hb1 _))⟩,by simp [intOf]; omega⟩
    · obtain rfl : k = cl := by omega
      have hE : Hid (Work wr b cap first ra rl rc ca k cc d st (curLeast first curs)) := by
        have h := hwr.out
        rw [List.take_of_length_le (by omega)] at h
        exact h
      go_wp2
      go_end0
      exact ⟨rfl,hE.out,hgr.out⟩
def Known (first : Int) (curs : List (Int × Int)) (d l : Int) : Prop := d = 0 ∨ (d = 1 ∧ l = curLeast first curs)
set_option maxRecDepth 100000 in
set_option maxHeartbeats 2000000 in
theorem impl_least_0 (b : Nat) (l : Int) (curs : List (Int × Int)) (w : World) (hw : Work w b cap first ra rl rc ca cl cc 0 0 l) (hc : Curs w ca cl curs) (ho : Off b ca) (hcl : cl ≤ 1048576) :
    Calls Tryz.prog 178 #[.pointer (some ⟨b,0,none⟩)] w fun e w' => e = .returned (.int .i64 (curLeast first curs)) ∧ Work w' b cap first ra rl rc ca cl cc 1 0 (curLeast first curs) ∧ w.grownBy w' (some b) := by
  obtain ⟨c0,c1,c2,c3,c4,c5,c6,c7⟩ := work_cells hw
  have hf := hw.frozen
  have hmf : ∀ (fn : Fn) (first cap : Array Value) (w : World),(Instr.makeFunc fn first cap).run Tryz.prog w = .ok (.func fn first cap) w := fun _ _ _ _ => rfl
  have HD : Hid _ := fun (_ : Unit) => do_first b 4 ⟨b,0,none⟩ w (fun w1 => Work w1 b cap first ra rl rc ca cl cc 0 1 (curLeast first curs) ∧ w.grownBy w1 (some b)) c4 c5 (hf 4) (hf 5)
    ((impl_reckon b 0 1 l curs _ (hw.set5 1) (curs_grown hc (grown_setc _ _ _ _) ho) ho hcl).mono (fun e w' h => ⟨h.1,h.2.1,(grown_setc _ _ _ _).trans h.2.2⟩))
    (fun w' h => ⟨⟨h.1.cell 4,h.1.cell 5⟩,h.1.frozen 4,h.1.frozen 5⟩)
  clear hw hc
  go_enter Tryz.func178,Tryz.ntmps178
  go_wp2_with fail
  refine (HD.out ()).mono ?_
  rintro e w' ⟨rfl,w1,⟨hW1,hg1⟩,rfl⟩
  have hW2 : Hid (Work ((w1.drew.setCell ⟨b,4,none⟩ (.int .u32 1)).setCell ⟨b,5,none⟩ (.int .i32 0)) b cap first ra rl rc ca cl cc 1 0 (curLeast first curs)) := Work.set5 (Work.set4 (w := w1.drew) hW1 1) 0
  have hg2 : Hid (w.grownBy ((w1.drew.setCell ⟨b,4,none⟩ (.int .u32 1)).setCell ⟨b,5,none⟩ (.int .i32 0)) (some b)) := ((hg1.trans (grown_drewc _ _)).trans (grown_setc _ _ _ _)).trans (grown_setc _ _ _ _)
  have h7 := hW2.out.cell 7
  obtain ⟨w3,hw3⟩ : ∃ w3,(w1.drew.setCell ⟨b,4,none⟩ (.int .u32 1)).setCell ⟨b,5,none⟩ (.int .i32 0) = w3 := ⟨_,rfl⟩
  rw [hw3] at hW2 hg2 h7 ⊢
  have h7' : w3.cell? ⟨b,7,none⟩ = some (.int .i64 (curLeast first curs)) := h7
  clear hW1 hg1 hw3 h7 hf c0 c1 c2 c3 c4 c5 c6 c7
  go_wp2
  go_ret
  exact ⟨rfl,hW2.out,hg2.out⟩
set_option maxRecDepth 100000 in
set_option maxHeartbeats 2000000 in
theorem impl_least_1 (b : Nat) (l : Int) (w : World) (hw : Work w b cap first ra rl rc ca cl cc 1 0 l) :
    Calls Tryz.prog 178 #[.pointer (some ⟨b,0,none⟩)] w fun e w' => e = .returned (.int .i64 l) ∧ w' = w := by
  obtain ⟨c0,c1,c2,c3,c4,c5,c6,c7⟩ := work_cells hw
  have hmf : ∀ (fn : Fn) (first cap : Array Value) (w : World),(Instr.makeFunc fn first cap).run Tryz.prog w = .ok (.func fn first cap) w := fun _ _ _ _ => rfl
  clear hw
  go_enter Tryz.func178,Tryz.ntmps178
  go_wp2_with fail
  refine (do_done ⟨b,4,none⟩ _ w c4).mono ?_
  rintro e w' ⟨rfl,rfl⟩
  go_wp2
  go_ret
  exact ⟨rfl,rfl⟩
theorem impl_least (b : Nat) (d l : Int) (curs : List (Int × Int)) (w : World) (hw : Work w b cap first ra rl rc ca cl cc d 0 l) (hk : Known first curs d l) (hc : Curs w ca cl curs) (ho : Off b ca) (hcl : cl ≤ 1048576) :
    Calls Tryz.prog 178 #[.pointer (some ⟨b,0,none⟩)] w fun e w' => e = .returned (.int .i64 (curLeast first curs)) ∧ Work w' b cap first ra rl rc ca cl cc 1 0 (curLeast first curs) ∧ w.grownBy w' (some b) := by
  rcases hk with rfl | ⟨rfl,rfl⟩
  · exact impl_least_0 b l curs w hw hc ho hcl
  · exact (impl_least_1 b _ w hw).mono (fun e w' h => ⟨h.1,by rw [h.2]; exact hw,by rw [h.2]; exact grown_of_below (Below.refl _ _) _⟩)
end Go.Proofs.YtahccighonddaaaGreatDoor
namespace Go.Proofs.YtahccighonddaaaGreatDoor
open Go.RowKit
variable {cap first : Int} {ra ca : Option Addr} {rl rc cl cc : Nat}
def risesTo (l : List (Int × Int)) (k : Nat) : Prop := ∀ j,j + 1 < k → ∀ (h : j + 1 < l.length),l[j].1 < l[j + 1].1
def risesB (l : List (Int × Int)) : Bool := decide (∀ j,j < l.length → ∀ (h : j + 1 < l.length),l[j].1 < l[j + 1].1)
theorem rises_yes {l : List (Int × Int)} {k : Nat} (h : risesTo l k) (hk : l.length ≤ k) : risesB l = true :=
  decide_eq_true fun j _ h1 => h j (by omega) h1
theorem rises_no {l : List (Int × Int)} {k : Nat} (h1 : k + 1 < l.length) (h : ¬ l[k].1 < l[k + 1].1) : risesB l = false :=
  decide_eq_false fun hh => h (hh k (by omega) h1)
theorem curs_two {w wr : World} {a : Option Addr} {n : Nat} {l : List (Int × Int)} (h : Curs w a n l) (hb : Below w.heap.size w wr) {k : Nat} (hk : k < n) :
    ∃ b off,a = some ⟨b,off,none⟩ ∧ ∃ h : k < l.length,wr.cell? ⟨b,off + k * 2,none⟩ = some (.int .i64 l[k].1) ∧ wr.cell? ⟨b,off + k * 2 + 1,none⟩ = some (.int .i64 l[k].2) := by
  have hkl : k < l.length := by rw [h.1]; exact hk
  obtain ⟨b,off,e,hc,hd⟩ := (curs_below h hb).2 k hkl
  exact ⟨b,off,e,hkl,hc,hd⟩
set_option maxRecDepth 100000 in
set_option maxHeartbeats 2000000 in
theorem impl_rising (a : Option Addr) (n c : Nat) (curs : List (Int × Int)) (w : World) (hc : Curs w a n curs) (hn : n ≤ 1048576) :
    Calls Tryz.prog 210 #[.slice a n c,.func (.func 165) #[] #[]] w fun e w' => e = .returned (.bool (risesB curs)) ∧ Below w.heap.size w w' := by
  have HC : Hid (Curs w a n curs) := hc
  have hlen : curs.length = n := hc.1
  have HL : Hid _ := hlen
  clear hc hlen
  go_enter Tryz.func210,Tryz.ntmps210
  go_wp2
  go_loopw [5] (fun i wr => ∃ k : Nat,1 ≤ k ∧ (k ≤ n ∨ k = 1) ∧ i = .int .i64 k ∧ Hid (risesTo curs k) ∧ Hid (Below w.heap.size w wr)) (fun i _ => n - (intOf i).toNat)
  case atStart => exact ⟨1,by omega,by omega,rfl,fun j hj => by omega,Below.refl _ _⟩
  case round =>
    obtain ⟨k,hk1,hkn,rfl,hr,hw⟩ := hrel
    by_cases hlt : k < n
    · obtain ⟨j,rfl⟩ : ∃ j,k = j + 1 := ⟨k - 1,by omega⟩
      obtain ⟨b,off,rfl,hj,g1,a1⟩ := curs_two HC.out hw.out (k := j) (by omega)
      obtain ⟨b',off',e,hj',g2,a2⟩ := curs_two HC.out hw.out (k := j + 1) hlt
      obtain ⟨rfl,rfl⟩ : b' = b ∧ off' = off := by simp at e; omega
      clear e
      have hY : curs[j].1 < curs[j + 1].1 → Hid (risesTo curs (j + 1 + 1)) := fun h i hi h1 => by
        by_cases hij : i = j
        · subst hij; exact h
        · exact hr.out i (by omega) h1
      have hN : ¬ curs[j].1 < curs[j + 1].1 → Hid (risesB curs = false) := fun h => rises_no hj' h
      obtain ⟨G1,e1⟩ : ∃ G,curs[j].1 = G := ⟨_,rfl⟩
      obtain ⟨G2,e2⟩ : ∃ G,curs[j + 1].1 = G := ⟨_,rfl⟩
      obtain ⟨A1,f1⟩ : ∃ G,curs[j].2 = G := ⟨_,rfl⟩
      obtain ⟨A2,f2⟩ : ∃ G,curs[j + 1].2 = G := ⟨_,rfl⟩
      rw [e1,e2] at hY hN
      rw [e1] at g1
      rw [e2] at g2
      rw [f1] at a1
      rw [f2] at a2
      have hbw : b' < wr.heap.size := World.block_lt_of_cell? wr _ g1
      clear e1 e2 f1 f2 hr hj hj'
      have hw0 : Hid (Below w.heap.size w wr) := hw.out
      have hW1 : IntKind.i64.wrap (j : Int) = (j : Int) := i64_wrap_in _ (by omega) (by omega)
      have hjn : (j : Int) < (n : Int) := by omega
      go_upto_region 4 with fail
      go_cut [25] (fun t wc => t = .bool (decide (G2 ≤ G1)) ∧ Hid (Below w.heap.size w wc))
      case first =>
        go_region_with (first | (go_at_call 165; refine (impl_groupOf _ _ _).mono ?_; rintro e w1 ⟨rfl,hb1⟩; have hlt1 := Nat.lt_of_lt_of_le hbw hb1.size; have g1 := (hb1.cell (p := ⟨b',off' + j * 2,none⟩) hbw).trans g1; have a1 := (hb1.cell (p := ⟨b',off' + j * 2 + 1,none⟩) hbw).trans a1; have g2 := (hb1.cell (p := ⟨b',off' + (j + 1) * 2,none⟩) hbw).trans g2; have a2 := (hb1.cell (p := ⟨b',off' + (j + 1) * 2 + 1,none⟩) hbw).trans a2; have hbw := hlt1; have hw0 : Hid (Below w.heap.size w w1) := (by first | exact below_tr hw0.out hb1 | exact below_tr hw0.out.drew hb1); clear hb1 hlt1))
        all_goals (go_wp2_with fail; go_meet; exact ⟨rfl,hw0.out⟩)
      case rest =>
      obtain ⟨rfl,hwc⟩ := hcut
      clear hw hw0 g1 a1 g2 a2 hW1
      by_cases hG : G1 < G2
      · have hR := hY hG
        clear hY hN
        go_wp2
        exact ⟨⟨j + 1 + 1,by omega,by omega,by go_num,hR.out,hwc.out⟩,by simp [intOf]; omega⟩
      · have hR := hN (by omega)
        clear hY hN
        go_wp2
        go_ret
        exact ⟨ret_bool hR.out.symm,hwc.out⟩
    · have hR : Hid (risesB curs = true) := rises_yes hr.out (by rw [HL.out]; omega)
      go_wp2
      go_ret
      exact ⟨ret_bool hR.out.symm,hw.out⟩
end Go.Proofs.YtahccighonddaaaGreatDoor
namespace Go.Proofs.YtahccighonddaaaGreatDoor
open Go.RowKit
variable {cap first : Int} {ra ca : Option Addr} {rl rc cl cc : Nat}
def findK (g : Int) (l : List (Int × Int)) : Nat := l.findIdx (fun c => decide (g ≤ c.1))
def findB (g : Int) (l : List (Int × Int)) : Bool := match l[findK g l]? with | some c => c.1 == g | none => false
def lowTo (g : Int) (l : List (Int × Int)) (k : Nat) : Prop := ∀ j,j < k → ∀ (h : j < l.length),l[j].1 < g
theorem find_at {g : Int} {l : List (Int × Int)} {k : Nat} (h : lowTo g l k) (hk : k < l.length) (hg : g ≤ l[k].1) : findK g l = k ∧ findB g l = (l[k].1 == g) := by
  have e : findK g l = k := by
    unfold findK
    rw [List.findIdx_eq hk]
    exact ⟨by simpa using hg,fun j hj => by have := h j hj (by omega); simp; omega⟩
  refine ⟨e,?_⟩
  unfold findB
  rw [e,List.getElem?_eq_getElem hk]
theorem find_none {g : Int} {l : List (Int × Int)} {k : Nat} (h : lowTo g l k) (hk : l.length ≤ k) : findK g l = l.length ∧ findB g l = false := by
  have e : findK g l = l.length := by
    unfold findK
    rw [List.findIdx_eq_length]
    intro x hx
    obtain ⟨j,hj,rfl⟩ := List.getElem_of_mem hx
    have := h j (by omega) hj
    simp; omega
  refine ⟨e,?_⟩
  unfold findB
  rw [e,List.getElem?_eq_none (Nat.le_refl _)]
set_option maxRecDepth 100000 in
set_option maxHeartbeats 2000000 in
theorem impl_find (a : Option Addr) (n c : Nat) (g : Int) (curs : List (Int × Int)) (w : World) (hc : Curs w a n curs) (hn : n ≤ 1048576) :
    Calls Tryz.prog 164 #[.slice a n c,.int .i64 g,.func (.func 165) #[] #[]] w fun e w' => e = .returned (.tuple #[.int .i64 (findK g curs),.bool (findB g curs)]) ∧ Below w.heap.size w w' := by
  have HC : Hid (Curs w a n curs) := hc
  have HL : Hid (curs.length = n) := hc.1
  clear hc
  go_enter Tryz.func164,Tryz.ntmps164
  go_wp2
  go_loopw [12] (fun i wr => ∃ k : Nat,k ≤ n ∧ i = .int .i64 k ∧ Hid (lowTo g curs k) ∧ Hid (Below w.heap.size w wr)) (fun i _ => n - (intOf i).toNat)
  case atStart => exact ⟨0,by omega,rfl,fun j hj => by omega,Below.refl _ _⟩
  case round =>
    obtain ⟨k,hkn,rfl,hr,hw⟩ := hrel
    by_cases hlt : k < n
    · obtain ⟨b,off,rfl,hj,g1,a1⟩ := curs_two HC.out hw.out (k := k) hlt
      have hY : g ≤ curs[k].1 → Hid (findK g curs = k) ∧ Hid (findB g curs = (curs[k].1 == g)) := fun h => ⟨(find_at hr.out hj h).1,(find_at hr.out hj h).2⟩
      have hN : ¬ g ≤ curs[k].1 → Hid (lowTo g curs (k + 1)) := fun h i hi h1 => by
        by_cases hik : i = k
        · subst hik; omega
        · exact hr.out i (by omega) h1
      obtain ⟨G1,e1⟩ : ∃ G,curs[k].1 = G := ⟨_,rfl⟩
      obtain ⟨A1,f1⟩ : ∃ G,curs[k].2 = G := ⟨_,rfl⟩
      rw [e1] at hY hN g1
      rw [f1] at a1
      have hbw : b < wr.heap.size := World.block_lt_of_cell? wr _ g1
      clear e1 f1 hr hj
      by_cases hG : g ≤ G1
      · obtain ⟨hE,hF⟩ := hY hG
        clear hY hN
        go_wp2_with fail
        refine (impl_groupOf G1 A1 _).mono ?_
        rintro e w1 ⟨rfl,hb1⟩
        have hc1 := fun o => hb1.cell (p := ⟨wr.heap.size,o,none⟩) (by simp)
        have hw1 : Hid (Below w.heap.size w w1) := below_tr (hw.out.alloc hw.out.size _) hb1
        clear hb1
        go_wp2_with fail
        refine (impl_groupOf G1 A1 _).mono ?_
        rintro e w2 ⟨rfl,hb2⟩
        have hw2 : Hid (Below w.heap.size w w2) := below_tr hw1.out hb2
        clear hb2
        go_wp2
        go_ret2
        refine ⟨?_,hw2.out⟩
        rw [hE.out,hF.out]
        rfl
      · have hE := hN hG
        clear hY hN
        go_wp2_with fail
        refine (impl_groupOf G1 A1 _).mono ?_
        rintro e w1 ⟨rfl,hb1⟩
        have hw1 : Hid (Below w.heap.size w w1) := below_tr (hw.out.alloc hw.out.size _) hb1
        clear hb1
        go_wp2
        exact ⟨⟨k + 1,by omega,by go_num,hE.out,hw1.out⟩,by simp [intOf]; omega⟩
    · have hE : Hid (findK g curs = n) := show _ = _ by rw [(find_none hr.out (by rw [HL.out]; omega)).1,HL.out]
      have hF : Hid (findB g curs = false) := (find_none hr.out (by rw [HL.out]; omega)).2
      go_wp2
      go_ret2
      refine ⟨?_,hw.out⟩
      rw [hE.out,hF.out]
      rfl
theorem impl_follower (b : Nat) (d st l : Int) (g : Int) (curs : List (Int × Int)) (w : World) (hw : Work w b cap first ra rl rc ca cl cc d st l) (hc : Curs w ca cl curs) (hcl : cl ≤ 1048576) :
    Calls Tryz.prog 110 #[.pointer (some ⟨b,0,none⟩),.int .i64 g] w fun e w' => e = .returned (.tuple #[.int .i64 (findK g curs),.bool (findB g curs)]) ∧ Below w.heap.size w w' := by
  obtain ⟨c0,c1,c2,c3,c4,c5,c6,c7⟩ := work_cells hw
  have HC : Hid (Curs w ca cl curs) := hc
  clear hw hc
  go_enter Tryz.func110,Tryz.ntmps110
  go_wp2_with fail
  refine (impl_find ca cl cc g curs _ HC.out hcl).mono ?_
  rintro e w1 ⟨rfl,hb1⟩
  have hw1 : Hid (Below w.heap.size w w1) := hb1
  clear hb1
  go_wp2
  go_ret2
  exact ⟨rfl,hw1.out⟩
end Go.Proofs.YtahccighonddaaaGreatDoor
namespace Go.Proofs.YtahccighonddaaaGreatDoor
open Go.RowKit
variable {cap first : Int} {ra ca : Option Addr} {rl rc cl cc : Nat}
theorem impl_end_q (b : Nat) (d st l : Int) (w : World) (hw : Work w b cap first ra rl rc ca cl cc d st l) (h : 0 ≤ first ∧ first ≤ 1000000) (hl : rl ≤ 1048576) :
    Calls Tryz.prog 145 #[.pointer (some ⟨b,0,none⟩)] w fun e w' => e = .returned (.int .i64 (first + (rl : Int))) ∧ ∃ m,w' = w.drewN m := by
  obtain ⟨c0,c1,c2,c3,c4,c5,c6,c7⟩ := work_cells hw
  go_enter Tryz.func145,Tryz.ntmps145
  go_wp2
  go_region
  all_goals go_wp2
  all_goals go_ret
  all_goals exact ⟨rfl,1,rfl⟩
def curIn (fin : Int) (c : Int × Int) : Bool := decide (1 ≤ c.1 ∧ c.1 ≤ 9) && decide (c.2 ≤ fin)
def curRight (first fin : Int) (curs : List (Int × Int)) : Bool := curs.all (curIn fin) && risesB curs && decide (curLeast first curs = first)
def inTo (fin : Int) (l : List (Int × Int)) (k : Nat) : Prop := ∀ j,j < k → ∀ (h : j < l.length),curIn fin l[j] = true
theorem in_no {first fin : Int} {l : List (Int × Int)} {k : Nat} (hk : k < l.length) (h : curIn fin l[k] = false) : curRight first fin l = false := by
  have e : l.all (curIn fin) = false := by
    rw [List.all_eq_false]
    exact ⟨l[k],List.getElem_mem hk,by simp [h]⟩
  simp [curRight,e]
theorem in_yes {first fin : Int} {l : List (Int × Int)} {k : Nat} (hk : l.length ≤ k) (h : inTo fin l k) : curRight first fin l = (risesB l && decide (curLeast first l = first)) := by
  have e : l.all (curIn fin) = true := by
    rw [List.all_eq_true]
    intro x hx
    obtain ⟨j,hj,rfl⟩ := List.getElem_of_mem hx
    exact h j (by omega) hj
  simp [curRight,e]
def Still (w w' : World) (b : Nat) (cap first : Int) (ra : Option Addr) (rl rc : Nat) (ca : Option Addr) (cl cc : Nat) (curs : List (Int × Int)) : Prop :=
  w.grownBy w' (some b) ∧ ∃ d l,Work w' b cap first ra rl rc ca cl cc d 0 l ∧ Known first curs d l
set_option maxRecDepth 100000 in
set_option maxHeartbeats 4000000 in
theorem impl_cursorsRight (b : Nat) (d l : Int) (curs : List (Int × Int)) (w : World) (hw : Work w b cap first ra rl rc ca cl cc d 0 l) (hk : Known first curs d l) (hc : Curs w ca cl curs) (ho : Off b ca) (hcl : cl ≤ 1048576) (h : 0 ≤ first ∧ first ≤ 1000000) (hl : rl ≤ 1048576) :
    Calls Tryz.prog 163 #[.pointer (some ⟨b,0,none⟩)] w fun e w' => e = .returned (.bool (curRight first (first + (rl : Int)) curs)) ∧ Still w w' b cap first ra rl rc ca cl cc curs := by
  obtain ⟨c0,c1,c2,c3,c4,c5,c6,c7⟩ := work_cells hw
  have HW : Hid (Work w b cap first ra rl rc ca cl cc d 0 l) := hw
  have HC : Hid (Curs w ca cl curs) := hc
  have HK : Hid (Known first curs d l) := hk
  have HL : Hid (curs.length = cl) := hc.1
  clear hw hc hk
  go_enter Tryz.func163,Tryz.ntmps163
  go_wp2
  go_loopw [11] (fun i wr => ∃ k : Nat,k ≤ cl ∧ i = .int .i64 k ∧ Hid (inTo (first + (rl : Int)) curs k) ∧ Hid (Below w.heap.size w wr)) (fun i _ => cl - (intOf i).toNat)
  case atStart => exact ⟨0,by omega,rfl,fun j hj => by omega,Below.refl _ _⟩
  case round =>
    obtain ⟨k,hkn,rfl,hr,hw⟩ := hrel
    have HWr : Hid (Work wr b cap first ra rl rc ca cl cc d 0 l) := HW.out.below hw.out
    by_cases hlt : k < cl
    · obtain ⟨bc,off,rfl,hj,g1,a1⟩ := curs_two HC.out hw.out (k := k) hlt
      have hN : curIn (first + (rl : Int)) curs[k] = false → Hid (curRight first (first + (rl : Int)) curs = false) := fun h => in_no hj h
      have hY : curIn (first + (rl : Int)) curs[k] = true → Hid (inTo (first + (rl : Int)) curs (k + 1)) := fun h i hi h1 => by
        by_cases hik : i = k
        · subst hik; exact h
        · exact hr.out i (by omega) h1
      obtain ⟨G1,A1,e1⟩ : ∃ G A,curs[k] = (G,A) := ⟨_,_,rfl⟩
      rw [e1] at hY hN g1 a1
      have hbw : bc < wr.heap.size := World.block_lt_of_cell? wr _ g1
      clear e1 hr hj
      by_cases hG : 1 ≤ G1 ∧ G1 ≤ 9
      · by_cases hA : A1 ≤ first + (rl : Int)
        · have hE := hY (by simp [curIn,hG,hA])
          clear hY hN
          have HGR : Hid _ := fun w => impl_group G1 w
          rw [decide_eq_true hG] at HGR
          go_wp2
          go_quiet (first | (go_at_call 109; exact Calls.quiet_of_same (HGR.out _)) | (go_at_call 145; exact Calls.quiet_of (impl_end_q b d 0 l _ (HWr.out.below (below_dn ((Below.refl _ _).alloc (Nat.le_refl _) _) _)) h hl)))
          go_wp2
          exact ⟨⟨k + 1,by omega,by go_num,hE.out,below_dn (hw.out.alloc hw.out.size _) _⟩,by simp [intOf]; omega⟩
        · have hE := hN (by simp [curIn,hA])
          clear hY hN
          have HGR : Hid _ := fun w => impl_group G1 w
          rw [decide_eq_true hG] at HGR
          go_wp2
          go_quiet (first | (go_at_call 109; exact Calls.quiet_of_same (HGR.out _)) | (go_at_call 145; exact Calls.quiet_of (impl_end_q b d 0 l _ (HWr.out.below (below_dn ((Below.refl _ _).alloc (Nat.le_refl _) _) _)) h hl)))
          go_wp2
          go_ret
          exact ⟨ret_bool hE.out.symm,grown_of_below (below_dn (hw.out.alloc hw.out.size _) _) _,d,l,HWr.out.below (below_dn ((Below.refl _ _).alloc (Nat.le_refl _) _) _),HK.out⟩
      · have hE := hN (by simp [curIn,hG])
        clear hY hN
        have HGR : Hid _ := fun w => impl_group G1 w
        rw [decide_eq_false hG] at HGR
        clear hG
        go_wp2
        go_quiet (first | (go_at_call 109; exact Calls.quiet_of_same (HGR.out _)) | (go_at_call 145; exact Calls.quiet_of (impl_end_q b d 0 l _ (HWr.out.below (below_dn ((Below.refl _ _).alloc (Nat.le_refl _) _) _)) h hl)))
        go_wp2
        go_ret
        exact ⟨ret_bool hE.out.symm,grown_of_below (below_dn (hw.out.alloc hw.out.size _) _) _,d,l,HWr.out.below (below_dn ((Below.refl _ _).alloc (Nat.le_refl _) _) _),HK.out⟩
    · have hE : Hid (curRight first (first + (rl : Int)) curs = (risesB curs && decide (curLeast first curs = first))) := in_yes (by rw [HL.out]; omega) hr.out
      clear hr
      have HI : Hid _ := fun w hc => impl_rising ca cl cc curs w hc hcl
      have HM : Hid _ := fun w d l hw hk hc => impl_least (cap := cap) (first := first) (ra := ra) (rl := rl) (rc := rc) (ca := ca) (cl := cl) (cc := cc) b d l curs w hw hk hc ho hcl
      obtain ⟨R,hR⟩ : ∃ R,risesB curs = R := ⟨_,rfl⟩
      obtain ⟨M,hM⟩ : ∃ M,curLeast first curs = M := ⟨_,rfl⟩
      rw [hR] at HI hE
      rw [hM] at HM hE
      have HMM : Hid (curLeast first curs = M) := hM
      clear hR hM
      have hwb := HWr.out.lt
      obtain ⟨d0,d1,d2,d3,d4,d5,d6,d7⟩ := work_cells HWr.out
      have HCr : Hid (Curs wr ca cl curs) := curs_below HC.out hw.out
      have hwp : Hid (w.grownBy wr (some b)) := grown_of_below hw.out _
      clear c0 c1 c2 c3 c4 c5 c6 c7
      cases R
      · have hE' : Hid (curRight first (first + (rl : Int)) curs = false) := hE.out.trans (by simp)
        clear hE
        go_upto_region 7 with fail
        go_cut [2] (fun t wc => t = .bool false ∧ Hid (Still w wc b cap first ra rl rc ca cl cc curs))
        case first =>
          first | (go_region_with (go_at_call 210; refine (HI.out _ (by first | exact HCr.out | exact curs_below HCr.out ((Below.refl _ _).drew))).mono ?_; rintro e w1 ⟨rfl,hb1⟩; have d1 := (hb1.cell (p := ⟨b,1,none⟩) hwb).trans d1; have d3 := (hb1.cell (p := ⟨b,3,none⟩) hwb).trans d3; have HS : Hid (Still w w1 b cap first ra rl rc ca cl cc curs) := ⟨hwp.out.trans (grown_of_below (below_tr ((Below.refl _ _).drew) hb1) _),d,l,HWr.out.below (below_tr ((Below.refl _ _).drew) hb1),HK.out⟩; clear hb1)) | fail
          all_goals (go_wp2_with fail; go_meet; exact ⟨rfl,HS⟩)
        case rest =>
        obtain ⟨rfl,hS⟩ := hcut
        go_wp2
        go_ret
        exact ⟨ret_bool hE'.out.symm,hS.out⟩
      · have hE' : Hid (curRight first (first + (rl : Int)) curs = decide (M = first)) := hE.out.trans (by simp)
        clear hE
        go_upto_region 7 with fail
        go_cut [2] (fun t wc => t = .bool (M == first) ∧ Hid (Still w wc b cap first ra rl rc ca cl cc curs))
        case first =>
          first | (go_region_with (first
            | (go_at_call 210; refine (HI.out _ (by first | exact HCr.out | exact curs_below HCr.out ((Below.refl _ _).drew))).mono ?_; rintro e w1 ⟨rfl,hb1⟩; have d1 := (hb1.cell (p := ⟨b,1,none⟩) hwb).trans d1; have hwp : Hid (w.grownBy w1 (some b)) := hwp.out.trans (grown_of_below (below_tr ((Below.refl _ _).drew) hb1) _); have HCr : Hid (Curs w1 ca cl curs) := curs_below HCr.out (below_tr ((Below.refl _ _).drew) hb1); have HWr : Hid (Work w1 b cap first ra rl rc ca cl cc d 0 l) := HWr.out.below (below_tr ((Below.refl _ _).drew) hb1); clear hb1)
            | (go_at_call 178; refine (HM.out _ d l HWr.out HK.out HCr.out).mono ?_; rintro e w2 ⟨rfl,hW2,hg2⟩; have d1 := (work_cells hW2).2.1; have HS : Hid (Still w w2 b cap first ra rl rc ca cl cc curs) := ⟨hwp.out.trans hg2,1,M,hW2,.inr ⟨rfl,HMM.out.symm⟩⟩; clear hW2 hg2))) | fail
          all_goals (go_wp2_with fail; go_meet; exact ⟨rfl,HS⟩)
        case rest =>
        obtain ⟨rfl,hS⟩ := hcut
        go_wp2
        go_ret
        exact ⟨ret_bool (by rw [hE'.out]; rfl),hS.out⟩
end Go.Proofs.YtahccighonddaaaGreatDoor
namespace Go.Proofs.YtahccighonddaaaGreatDoor
open Go.RowKit
variable {cap first : Int} {ra ca : Option Addr} {rl rc cl cc : Nat}
def sizesB (cap first : Int) (rl cl : Nat) : Bool := capB cap && decide (0 ≤ first ∧ first ≤ 1000000) && decide ((rl : Int) ≤ cap) && decide (first + (rl : Int) ≤ 1000000) && decide (cl ≤ 4)
theorem capB_le {n : Int} (h : capB n = true) : 4 ≤ n ∧ n ≤ 16 := by simp [capB] at h; omega
set_option maxRecDepth 100000 in
set_option maxHeartbeats 4000000 in
theorem impl_sizesRight (b : Nat) (d st l : Int) (w : World) (hw : Work w b cap first ra rl rc ca cl cc d st l) (hl : rl ≤ 1048576) (hcl : cl ≤ 1048576) :
    Calls Tryz.prog 161 #[.pointer (some ⟨b,0,none⟩)] w fun e w' => e = .returned (.bool (sizesB cap first rl cl)) ∧ Below w.heap.size w w' := by
  obtain ⟨c0,c1,c2,c3,c4,c5,c6,c7⟩ := work_cells hw
  have HW : Hid (Work w b cap first ra rl rc ca cl cc d st l) := hw
  have hlt := hw.lt
  have HC : Hid _ := fun w => impl_cap cap w
  have HT : Hid _ := fun w => impl_time first w
  clear hw
  by_cases h1 : capB cap = true
  · have hcb := capB_le h1
    rw [h1] at HC
    by_cases h2 : 0 ≤ first ∧ first ≤ 1000000
    · rw [decide_eq_true h2] at HT
      by_cases h3 : (rl : Int) ≤ cap
      · have HT2 : Hid _ := fun w => impl_time (first + (rl : Int)) w
        by_cases h4 : first + (rl : Int) ≤ 1000000
        · rw [decide_eq_true (show 0 ≤ first + (rl : Int) ∧ first + (rl : Int) ≤ 1000000 by omega)] at HT2
          have hE : Hid (sizesB cap first rl cl = decide ((cl : Int) ≤ 4)) := show _ = _ by
            rw [Bool.eq_iff_iff]
            simp [sizesB,h1,h2,h3,h4]
            omega
          clear h1
          go_enter Tryz.func161,Tryz.ntmps161
          go_wp2_with fail
          refine (HC.out _).mono ?_
          rintro e w1 ⟨rfl,hw1⟩
          rw [hw1]
          clear hw1 w1
          go_wp2_with fail
          refine (HT.out _).mono ?_
          rintro e w1 ⟨rfl,hw1⟩
          rw [hw1]
          clear hw1 w1
          go_wp2_with fail
          refine (impl_room b d st l _ HW.out (by omega) hl).mono ?_
          rintro e w1 ⟨rfl,hb1⟩
          have HW1 : Hid _ := HW.out.below hb1
          have hB1 : Hid (Below w.heap.size w w1) := hb1
          have hlt1 := Nat.lt_of_lt_of_le hlt hb1.size
          clear hb1
          go_wp2_with fail
          refine (impl_end b d st l _ HW1.out h2 hl).mono ?_
          rintro e w2 ⟨rfl,hb2⟩
          have d3 := (hb2.cell (p := ⟨b,3,none⟩) hlt1).trans ((hB1.out.cell (p := ⟨b,3,none⟩) hlt).trans c3)
          have hB2 : Hid (Below w.heap.size w w2) := below_tr hB1.out hb2
          clear hb2
          go_wp2_with fail
          refine (HT2.out _).mono ?_
          rintro e w3 ⟨rfl,hw1⟩
          rw [hw1]
          clear hw1 w3
          go_wp2
          go_ret
          exact ⟨ret_bool hE.out.symm,hB2.out⟩
        · rw [decide_eq_false (show ¬ (0 ≤ first + (rl : Int) ∧ first + (rl : Int) ≤ 1000000) by omega)] at HT2
          have hE : Hid (sizesB cap first rl cl = false) := show _ = _ by simp [sizesB,h4]
          clear h1
          go_enter Tryz.func161,Tryz.ntmps161
          go_wp2_with fail
          refine (HC.out _).mono ?_
          rintro e w1 ⟨rfl,hw1⟩
          rw [hw1]
          clear hw1 w1
          go_wp2_with fail
          refine (HT.out _).mono ?_
          rintro e w1 ⟨rfl,hw1⟩
          rw [hw1]
          clear hw1 w1
          go_wp2_with fail
          refine (impl_room b d st l _ HW.out (by omega) hl).mono ?_
          rintro e w1 ⟨rfl,hb1⟩
          have HW1 : Hid _ := HW.out.below hb1
          have hB1 : Hid (Below w.heap.size w w1) := hb1
          clear hb1
          go_wp2_with fail
          refine (impl_end b d st l _ HW1.out h2 hl).mono ?_
          rintro e w2 ⟨rfl,hb2⟩
          have hB2 : Hid (Below w.heap.size w w2) := below_tr hB1.out hb2
          clear hb2
          go_wp2_with fail
          refine (HT2.out _).mono ?_
          rintro e w3 ⟨rfl,hw1⟩
          rw [hw1]
          clear hw1 w3
          go_wp2
          go_ret
          exact ⟨ret_bool hE.out.symm,hB2.out⟩
      · have hE : Hid (sizesB cap first rl cl = false) := show _ = _ by simp [sizesB,h3]
        clear h1
        go_enter Tryz.func161,Tryz.ntmps161
        go_wp2_with fail
        refine (HC.out _).mono ?_
        rintro e w1 ⟨rfl,hw1⟩
        rw [hw1]
        clear hw1 w1
        go_wp2_with fail
        refine (HT.out _).mono ?_
        rintro e w1 ⟨rfl,hw1⟩
        rw [hw1]
        clear hw1 w1
        go_wp2_with fail
        refine (impl_room b d st l _ HW.out (by omega) hl).mono ?_
        rintro e w1 ⟨rfl,hb1⟩
        have hB1 : Hid (Below w.heap.size w w1) := hb1
        clear hb1
        go_wp2
        go_ret
        exact ⟨ret_bool hE.out.symm,hB1.out⟩
    · rw [decide_eq_false h2] at HT
      have hE : Hid (sizesB cap first rl cl = false) := show _ = _ by simp [sizesB,h2]
      clear h1 h2
      go_enter Tryz.func161,Tryz.ntmps161
      go_wp2_with fail
      refine (HC.out _).mono ?_
      rintro e w1 ⟨rfl,hw1⟩
      rw [hw1]
      clear hw1 w1
      go_wp2_with fail
      refine (HT.out _).mono ?_
      rintro e w1 ⟨rfl,hw1⟩
      rw [hw1]
      clear hw1 w1
      go_wp2
      go_ret
      exact ⟨ret_bool hE.out.symm,Below.refl _ _⟩
  · have h1' : capB cap = false := by simpa using h1
    rw [h1'] at HC
    have hE : Hid (sizesB cap first rl cl = false) := show _ = _ by simp [sizesB,h1']
    clear h1 h1'
    go_enter Tryz.func161,Tryz.ntmps161
    go_wp2_with fail
    refine (HC.out _).mono ?_
    rintro e w1 ⟨rfl,hw1⟩
    rw [hw1]
    clear hw1 w1
    go_wp2
    go_ret
    exact ⟨ret_bool hE.out.symm,Below.refl _ _⟩
end Go.Proofs.YtahccighonddaaaGreatDoor
