import Derived.Test.YtahccighonddaaaGreatDoorFabEnds
import Derived.Test.YtahccighonddaaaGreatDoorRecBytes
import Derived.Deep.DeepCutAuto
import Derived.Test.YtahccighonddaaaGreatDoorNrm
import Derived.Deep.RegionHeld3
import Derived.Deep.DrawnRows
import Derived.Laws.AppendOwn
namespace Go.Proofs.YtahccighonddaaaGreatDoor
open Go.RowKit
variable {cap first : Int} {ra ca : Option Addr} {rl rc cl cc : Nat}
abbrev WR2 (w : World) (cap first : Int) (ra : Option Addr) (rl rc : Nat) (ca : Option Addr) (cl cc : Nat) : World := (w.alloc (ringObj cap first ra rl rc ca cl cc)).alloc outObj0
theorem w2_below (w : World) (cap first : Int) (ra : Option Addr) (rl rc : Nat) (ca : Option Addr) (cl cc : Nat) : Below w.heap.size w (WR2 w cap first ra rl rc ca cl cc) := ((Below.refl _ _).alloc (Nat.le_refl _) _).alloc (by simp) _
theorem keep_blocks {u u1 u2 : World} {b : Nat} (hb : Below u.heap.size u u1) (hg : u1.grownBy u2 (some b)) (h : u.heap.size ≤ b) : Below u.heap.size u u2 := hb.grown hg hb.size (fun k e => by cases e; exact h)
end Go.Proofs.YtahccighonddaaaGreatDoor
namespace Go.Proofs.YtahccighonddaaaGreatDoor
open Go.RowKit
attribute [local go_sem ↓] Go.wp_at_zero Go.wp_at_succ
variable {cap first : Int} {ra ca : Option Addr} {rl rc cl cc : Nat}
structure Passing (w wr : World) (b : Nat) (cap first : Int) (ra : Option Addr) (rl rc : Nat) (ca : Option Addr) (cl cc : Nat) (f' : Int) (ra' : Option Addr) (rl' rc' : Nat) (L : Int) : Prop where
  b0 : wr.heap[w.heap.size]? = some (ringObj 0 0 none 0 0 none 0 0)
  b1 : wr.heap[w.heap.size + 1]? = some (ringObj cap f' ra' rl' rc' ca cl cc)
  work : Work wr b cap first ra rl rc ca cl cc 1 0 L
  grown : w.grownBy wr (some b)
theorem passed_num (first : Int) (P : Nat) (hP : P ≤ 1048577) : IntKind.i64.wrap (first + (P : Int) - first) = (P : Int) := by
  rw [show first + (P : Int) - first = (P : Int) by omega]
  exact i64_wrap_in _ (by omega) (by omega)
theorem passing_start {w W0 w1 : World} {b : Nat} {L : Int} (hB : Below w.heap.size w W0) (hq : W0.heap[w.heap.size]? = some (ringObj 0 0 none 0 0 none 0 0) ∧ W0.heap[w.heap.size + 1]? = some (ringObj cap first ra rl rc ca cl cc)) (hW : Work w1 b cap first ra rl rc ca cl cc 1 0 L) (hg : W0.grownBy w1 (some b)) (hb : b < w.heap.size) (hz : w.heap.size + 2 ≤ W0.heap.size) : Passing w w1 b cap first ra rl rc ca cl cc first ra rl rc L :=
  ⟨(hg.block _ (by omega) (by simp; omega)).trans hq.1,(hg.block _ (by omega) (by simp; omega)).trans hq.2,hW,(grown_of_below hB _).trans hg⟩
theorem passing_cut {w wc : World} {b : Nat} {L : Int} (h : Passing w wc b cap first ra rl rc ca cl cc first ra rl rc L) (hb : b < w.heap.size) (a : Option Addr) (n c : Nat) : Passing w (wc.setCell ⟨w.heap.size + 1,2,none⟩ (.slice a n c)).drew b cap first ra rl rc ca cl cc first a n c L :=
  ⟨(Below.heap_setCell wc ⟨w.heap.size + 1,2,none⟩ (.slice a n c) w.heap.size (show w.heap.size ≠ w.heap.size + 1 by omega)).trans h.b0,
   heap_setCell_same wc (w.heap.size + 1) 2 _ _ (.slice a n c) h.b1,
   (Below.heap_setCell wc ⟨w.heap.size + 1,2,none⟩ (.slice a n c) b (show b ≠ w.heap.size + 1 by omega)).trans h.work,
   (h.grown.andThen (grown_setc _ (w.heap.size + 1) 2 _) (fun j e => by cases e; exact .inl (by omega))).trans (grown_drewc _ _)⟩
set_option maxRecDepth 100000 in
set_option maxHeartbeats 4000000 in
theorem impl_withoutPassed (b : Nat) (d l : Int) (recs : List ByteArray) (curs : List (Int × Int)) (P : Nat) (w : World) (hw : Work w b cap first ra rl rc ca cl cc d 0 l) (hk : Known first curs d l) (hc : Curs w ca cl curs) (ho : Off b ca) (hcl : cl ≤ 1048576)
    (hr : StrIn w ra rl rc recs) (hrl : rl ≤ 1048577) (hrc : rc ≤ maxLen) (_hf : 0 ≤ first ∧ first ≤ 1000000) (hP : curLeast first curs = first + (P : Int)) (hPl : P ≤ rl) :
    Calls Tryz.prog 120 #[.pointer (some ⟨b,0,none⟩)] w fun e w' => e = .returned (ringV cap (first + (P : Int)) (cutAt ra 1 P rl) (rl - P) (rl - P) ca cl cc) ∧ w.grownBy w' (some b) := by
  have hb := hw.lt
  have HLE : Hid _ := fun w hw hk hc => impl_least (cap := cap) (first := first) (ra := ra) (rl := rl) (rc := rc) (ca := ca) (cl := cl) (cc := cc) b d l curs w hw hk hc ho hcl
  have HL1 : Hid _ := fun w hw => impl_least_1 (cap := cap) (first := first) (ra := ra) (rl := rl) (rc := rc) (ca := ca) (cl := cl) (cc := cc) b (curLeast first curs) w hw
  rw [hP] at HLE HL1
  have HCU : Hid (∀ w,Calls Tryz.prog 179 #[.slice ra rl rc,.int .i64 P,.int .i64 rl] w fun e w' => e = .returned (.slice (cutAt ra 1 P rl) (rl - P) (rl - P)) ∧ w' = w) := fun w => impl_cutS ra rl rc P rl w hPl (Nat.le_refl _) hr.cap hrc hr.nil hr.off
  obtain ⟨a',ha'⟩ : ∃ a',cutAt ra 1 P rl = a' := ⟨_,rfl⟩
  rw [ha'] at HCU ⊢
  have HW : Hid (Work w b cap first ra rl rc ca cl cc d 0 l) := hw
  have HK : Hid (Known first curs d l) := hk
  have HC : Hid (Curs w ca cl curs) := hc
  obtain ⟨c0,c1,c2,c3,c4,c5,c6,c7⟩ := work_cells hw
  clear hw hk hc ha' hP hr
  go_enter Tryz.func120,Tryz.ntmps120
  go_upto_region 2 with fail
  obtain ⟨W0,hW0⟩ : ∃ W0,(w.alloc (ringObj 0 0 none 0 0 none 0 0)).alloc (ringObj cap first ra rl rc ca cl cc) = W0 := ⟨_,rfl⟩
  have hB0 : Below w.heap.size w W0 := by rw [← hW0]; exact ((Below.refl _ _).alloc (Nat.le_refl _) _).alloc (by simp) _
  have hz0 : w.heap.size + 2 ≤ W0.heap.size := by rw [← hW0]; simp
  have b0 : W0.heap[w.heap.size]? = some (ringObj 0 0 none 0 0 none 0 0) := by rw [← hW0]; exact (Below.heap_alloc _ _ _ (by simp)).trans (heap_alloc_new _ _)
  have b1 : W0.heap[w.heap.size + 1]? = some (ringObj cap first ra rl rc ca cl cc) := by
    rw [← hW0]
    have h := heap_alloc_new (w.alloc (ringObj 0 0 none 0 0 none 0 0)) (ringObj cap first ra rl rc ca cl cc)
    rwa [World.size_alloc] at h
  rw [hW0]
  clear hW0
  have HB0 : Hid (Below w.heap.size w W0) := hB0
  have HQ0 : Hid (W0.heap[w.heap.size]? = some (ringObj 0 0 none 0 0 none 0 0) ∧ W0.heap[w.heap.size + 1]? = some (ringObj cap first ra rl rc ca cl cc)) := ⟨b0,b1⟩
  have HW0 : Hid (Work W0 b cap first ra rl rc ca cl cc d 0 l) := HW.out.below hB0
  obtain ⟨d0,d1,d2,d3,d4,d5,d6,d7⟩ := work_cells HW0.out
  clear hB0 b0 b1 c0 c1 c2 c3 c4 c5 c6 c7
  go_cut [4] (fun s wc => s = .int .i64 P ∧ Hid (Passing w wc b cap first ra rl rc ca cl cc first ra rl rc (first + (P : Int))))
  case first =>
    go_region_with (go_at_call 178; refine (HLE.out W0.drew HW0.out HK.out (curs_below HC.out HB0.out.drew)).mono ?_; rintro e w1 ⟨rfl,hW1,hg1⟩; have d1 := (work_cells hW1).2.1; have HPA : Hid (Passing w w1 b cap first ra rl rc ca cl cc first ra rl rc (first + (P : Int))) := passing_start (W0 := W0.drew) HB0.out.drew HQ0.out hW1 hg1 hb hz0; clear hW1 hg1)
    all_goals (go_wp2_with fail; go_meet; refine ⟨?_,HPA⟩; exact val_int (passed_num first P (by omega)))
  case rest =>
  obtain ⟨rfl,hpa⟩ := hcut
  clear HB0 HQ0 HW0 d0 d1 d2 d3 d4 d5 d6 d7 HLE
  obtain ⟨d0,d1,d2,d3,d4,d5,d6,d7⟩ := work_cells hpa.out.work
  have e1c := fun o => cell_of_block0 hpa.out.b1 o
  have e1f := fun o => unfrozen_of_block0 hpa.out.b1 o
  go_upto_region 3 with fail
  go_cut [] (fun wd => Hid (Passing w wd b cap first ra rl rc ca cl cc first a' (rl - P) (rl - P) (first + (P : Int))))
  case first =>
    go_region_with (go_at_call 179; refine (HCU.out _).mono ?_; rintro e w1 ⟨rfl,rfl⟩)
    all_goals (go_wp2_with fail; go_meet; exact passing_cut hpa.out hb _ _ _)
  case rest =>
  have hpb := hcut
  clear hpa d0 d1 d2 d3 d4 d5 d6 d7 e1c e1f hcut
  have e0c := fun o => cell_of_block0 hpb.out.b0 o
  have e0f := fun o => unfrozen_of_block0 hpb.out.b0 o
  have e1c := fun o => cell_of_block0 hpb.out.b1 o
  have e1f := fun o => unfrozen_of_block0 hpb.out.b1 o
  go_wp2_with fail
  refine (HL1.out _ hpb.out.work).mono ?_
  rintro e w1 ⟨rfl,hw1⟩
  rw [hw1]
  clear hw1 w1
  go_wp2
  refine bodyPost_ret (v := ringV cap (first + (P : Int)) a' (rl - P) (rl - P) ca cl cc) (by simp [results,Tryz.results120,go_sem,e0c]) rfl ⟨rfl,?_⟩
  exact ((((hpb.out.grown.andThen (grown_setc _ (w.heap.size + 1) 1 _) (fun j e => by cases e; exact .inl (by omega))).andThen (grown_setc _ w.heap.size 0 _) (fun j e => by cases e; exact .inl (Nat.le_refl _))).andThen (grown_setc _ w.heap.size 1 _) (fun j e => by cases e; exact .inl (Nat.le_refl _))).andThen (grown_setc _ w.heap.size 2 _) (fun j e => by cases e; exact .inl (Nat.le_refl _))).andThen (grown_setc _ w.heap.size 3 _) (fun j e => by cases e; exact .inl (Nat.le_refl _))
end Go.Proofs.YtahccighonddaaaGreatDoor
namespace Go.Proofs.YtahccighonddaaaGreatDoor
open Go.RowKit
variable {cap first : Int} {ra ca : Option Addr} {rl rc cl cc : Nat}
def trimR (cap first : Int) (recs : List ByteArray) (curs : List (Int × Int)) : RO := RO.ring cap (curLeast first curs) (recs.drop (curLeast first curs - first).toNat) curs
theorem foldl_min_mem (l : List (Int × Int)) : ∀ n,l.foldl (fun n x => min n x.2) n = n ∨ ∃ c ∈ l,l.foldl (fun n x => min n x.2) n = c.2 := by
  induction l with
  | nil => intro n; exact .inl rfl
  | cons x r ih =>
    intro n
    simp only [List.foldl_cons]
    rcases ih (min n x.2) with h | ⟨c,hc,h⟩
    · rw [h]
      by_cases hx : n ≤ x.2
      · exact .inl (by omega)
      · exact .inr ⟨x,by simp,by omega⟩
    · exact .inr ⟨c,by simp [hc],h⟩
theorem curLeast_in (first fin : Int) (l : List (Int × Int)) (hf : first ≤ fin) (h : ∀ c ∈ l,first ≤ c.2 ∧ c.2 ≤ fin) : first ≤ curLeast first l ∧ curLeast first l ≤ fin := by
  cases l with
  | nil => exact ⟨Int.le_refl _,hf⟩
  | cons x r =>
    rcases foldl_min_mem (x :: r) x.2 with e | ⟨c,hc,e⟩
    · have := h x (by simp)
      show first ≤ (x :: r).foldl _ x.2 ∧ (x :: r).foldl _ x.2 ≤ fin
      rw [e]
      exact this
    · have := h c hc
      show first ≤ (x :: r).foldl _ x.2 ∧ (x :: r).foldl _ x.2 ≤ fin
      rw [e]
      exact this
theorem right_curs {recs : List ByteArray} {curs : List (Int × Int)} (h : ringRightB cap first recs curs = true) : (∀ c ∈ curs,first ≤ c.2 ∧ c.2 ≤ first + (recs.length : Int)) ∧ (∀ j,∀ (hj : j + 1 < curs.length),curs[j].1 < curs[j + 1].1) := by
  rw [ringRight_eq,curRight_eq] at h
  simp only [Bool.and_eq_true,cursOk_iff] at h
  exact ⟨fun c hc => (h.2.1.1 c hc).2,h.2.1.2.2⟩
theorem cut_strIn {w : World} {a : Option Addr} {n c P : Nat} {l : List ByteArray} (h : StrIn w a n c l) (hP : P ≤ n) : StrIn w (cutAt a 1 P n) (n - P) (n - P) (l.drop P) := by
  have hl : l.length = n := h.strs.1
  refine ⟨?_,cutAt_lt h.lt,fun e => ?_,Nat.le_refl _,cutAt_off h.off⟩
  · have hc := cut_strs h.strs hP (Nat.le_refl n)
    rwa [List.take_of_length_le (by simp; omega)] at hc
  · have := (h.nil (cutAt_none e)).1
    omega
theorem find_lt {g : Int} {l : List (Int × Int)} (h : findB g l = true) : findK g l < l.length := by
  unfold findB at h
  rcases Nat.lt_or_ge (findK g l) l.length with h1 | h1
  · exact h1
  · rw [List.getElem?_eq_none h1] at h
    cases h
theorem ans_trim {w w8 : World} {base n m P : Nat} {recs : List ByteArray} {cs : List (Int × Int)} {a : Option Addr} {q : Nat} {c : Option Addr} {p : Nat} (hP : curLeast first cs = first + (P : Int)) (ho : OwnRing w8 base a n q c m p ((recs.drop P).map Value.string) (curCells cs)) (hB : Below w.heap.size w w8) {b : Nat} (hb : w.heap.size ≤ b) (hbb : b < base) (v0 v1 v2 v3 v4 v5 v6 v7 : Value) :
    Answers w (set8 w8 b v0 v1 v2 v3 v4 v5 v6 v7) (.returned (ringOutV cap (first + (P : Int)) a n q c m p 0 0 ⟨#[]⟩ 0)) (trimR cap first recs cs) := by
  have hn : (recs.drop P).length = n := by have := ho.1.1; simp at this ⊢; omega
  have hm : cs.length = m := by have := ho.2.1; rw [curCells_length] at this; omega
  have e : trimR cap first recs cs = RO.ring cap (first + (P : Int)) (recs.drop P) cs := by
    unfold trimR
    rw [hP,show (first + (P : Int) - first).toNat = P by omega]
  rw [e]
  subst hn hm
  exact ans_ring (RO.ring cap (first + (P : Int)) (recs.drop P) cs) ho hB b hb hbb _ _ _ _ _ _ _ _
end Go.Proofs.YtahccighonddaaaGreatDoor
namespace Go.Proofs.YtahccighonddaaaGreatDoor
open Go.RowKit
variable {cap first : Int} {ra ca : Option Addr} {rl rc cl cc : Nat}
def curIx (g : Int) (l : List (Int × Int)) : Int := if findB g l = true then (findK g l : Int) else -1
def rises (l : List (Int × Int)) : Prop := ∀ j,∀ (h : j + 1 < l.length),l[j].1 < l[j + 1].1
theorem rises_lt {l : List (Int × Int)} (h : rises l) : ∀ i j,i < j → ∀ (hj : j < l.length),∀ (hi : i < l.length),l[i].1 < l[j].1 := by
  intro i j hij
  induction j with
  | zero => omega
  | succ n ih =>
    intro hj hi
    by_cases e : i = n
    · subst e; exact h i hj
    · have h1 := ih (by omega) (by omega) hi
      have h2 := h n hj
      omega
def notTo (g : Int) (l : List (Int × Int)) (k : Nat) : Prop := ∀ j,j < k → ∀ (h : j < l.length),l[j].1 ≠ g
theorem ix_at {g : Int} {l : List (Int × Int)} {k : Nat} (hr : rises l) (hk : k < l.length) (hg : l[k].1 = g) : curIx g l = (k : Int) := by
  have hlow : lowTo g l k := fun j hj h => by
    have := rises_lt hr j k hj hk h
    omega
  have hf := find_at hlow hk (by omega)
  unfold curIx
  rw [hf.2,hf.1,if_pos (by simp [hg])]
theorem ix_none {g : Int} {l : List (Int × Int)} {k : Nat} (hk : l.length ≤ k) (h : notTo g l k) : curIx g l = -1 := by
  unfold curIx
  rw [if_neg]
  intro hb
  have hlt := find_lt hb
  unfold findB at hb
  rw [List.getElem?_eq_getElem hlt] at hb
  exact h _ (by omega) hlt (by simpa using hb)
set_option maxHeartbeats 2000000 in
theorem spec_cursor (cap first : Int) (ra : Option Addr) (rl rc : Nat) (ca : Option Addr) (cl cc : Nat) (g : Int) (curs : List (Int × Int)) (w : World) (hc : Curs w ca cl curs) (hr : rises curs) (hcl : cl ≤ 1048576) :
    Calls Tryz.prog 62 #[ringV cap first ra rl rc ca cl cc,.int .i64 g] w fun e w' => e = .returned (.int .i64 (curIx g curs)) ∧ Below w.heap.size w w' := by
  have HC : Hid (Curs w ca cl curs) := hc
  have HL : Hid (curs.length = cl) := hc.1
  have HR : Hid (rises curs) := hr
  have HB : Hid (Below w.heap.size w (w.alloc (ringObj cap first ra rl rc ca cl cc))) := (Below.refl _ _).alloc (Nat.le_refl _) _
  clear hc hr
  go_enter Tryz.func62,Tryz.ntmps62
  go_wp2
  go_loop [5] (fun i => ∃ k : Nat,k ≤ cl ∧ i = .int .i64 k ∧ Hid (notTo g curs k)) (fun i => cl - (intOf i).toNat)
  case atStart => exact ⟨0,by omega,rfl,fun j hj => by omega⟩
  case round =>
    obtain ⟨k,hk,rfl,hn⟩ := hrel
    by_cases hlt : k < cl
    · have hkl : k < curs.length := by rw [HL.out]; exact hlt
      obtain ⟨b,off,hca,g1,_⟩ := (curs_below HC.out HB.out).2 k hkl
      subst hca
      have hbw : b < w.heap.size := World.block_lt_of_cell? w ⟨b,off + k * 2,none⟩ ((HB.out.cell (p := ⟨b,off + k * 2,none⟩) (by
        obtain ⟨b',off',e,hh,_⟩ := HC.out.2 k hkl
        cases e
        exact World.block_lt_of_cell? w ⟨b,off + k * 2,none⟩ hh)).symm.trans g1)
      have hY : curs[k].1 = g → Hid (curIx g curs = (k : Int)) := fun h => ix_at HR.out hkl h
      have hN : curs[k].1 ≠ g → Hid (notTo g curs (k + 1)) := fun h j hj hjl => by
        by_cases e : j = k
        · subst e; exact h
        · exact hn.out j (by omega) hjl
      obtain ⟨G,hG⟩ : ∃ G,curs[k].1 = G := ⟨_,rfl⟩
      rw [hG] at g1 hY hN
      clear hG
      by_cases hg : G = g
      · have hE := hY hg
        have hgb : (G == g) = true := by simp [hg]
        clear hY hN hg
        go_wp2
        go_ret
        exact ⟨ret_int hE.out.symm,HB.out⟩
      · have hE := hN hg
        have hgb : (G == g) = false := by simp [hg]
        clear hY hN hg
        go_wp2
        exact ⟨⟨k + 1,by omega,by go_num,hE.out⟩,by simp [intOf]; omega⟩
    · have hE : Hid (curIx g curs = -1) := ix_none (k := k) (by rw [HL.out]; omega) hn.out
      go_wp2
      go_ret
      exact ⟨ret_int hE.out.symm,HB.out⟩
theorem strs_drop {w : World} {b off n P : Nat} {l : List ByteArray} (h : Strs w (some ⟨b,off,none⟩) n l) (_hP : P ≤ n) : Strs w (some ⟨b,off + P,none⟩) (n - P) (l.drop P) := by
  have hl : l.length = n := h.1
  refine ⟨by simp; omega,fun k hk => ?_⟩
  have hk' : P + k < l.length := by simp at hk; omega
  obtain ⟨b',off',e,hc⟩ := h.2 (P + k) hk'
  cases e
  refine ⟨b,off + P,rfl,?_⟩
  rw [show off + P + k = off + (P + k) by omega,hc]
  simp
theorem trim_end {w w4 : World} {cap first f : Int} {va va' : Option Addr} {n vc n' vc' : Nat} {qa : Option Addr} {m qc base : Nat} {xs : List Value} (h : SCopy w w4 cap first va n vc qa m qc) (hx : w4.ownsRow base 9 1 (.slice va' n' vc') n' xs) (hb : w.heap.size + 2 ≤ base) :
    ((((((w4.setCell ⟨w.heap.size,2,none⟩ (.slice va' n' vc')).setCell ⟨w.heap.size,1,none⟩ (.int .i64 f)).setCell ⟨w.heap.size + 1,0,none⟩ (.int .i64 cap)).setCell ⟨w.heap.size + 1,1,none⟩ (.int .i64 f)).setCell ⟨w.heap.size + 1,2,none⟩ (.slice va' n' vc')).setCell ⟨w.heap.size + 1,3,none⟩ (.slice qa m qc)).ownsRow w.heap.size 9 1 (.slice va' n' vc') n' xs ∧
    Below w.heap.size w ((((((w4.setCell ⟨w.heap.size,2,none⟩ (.slice va' n' vc')).setCell ⟨w.heap.size,1,none⟩ (.int .i64 f)).setCell ⟨w.heap.size + 1,0,none⟩ (.int .i64 cap)).setCell ⟨w.heap.size + 1,1,none⟩ (.int .i64 f)).setCell ⟨w.heap.size + 1,2,none⟩ (.slice va' n' vc')).setCell ⟨w.heap.size + 1,3,none⟩ (.slice qa m qc)) := by
  have r0 : w.heap.size < base := by omega
  have r1 : w.heap.size + 1 < base := by omega
  have k1 : w.heap.size ≤ w.heap.size + 1 := by omega
  refine ⟨?_,?_⟩
  · exact (ownsRow_setCell_below (ownsRow_setCell_below (ownsRow_setCell_below (ownsRow_setCell_below (ownsRow_setCell_below (ownsRow_setCell_below hx (a := ⟨w.heap.size,2,none⟩) r0 _) (a := ⟨w.heap.size,1,none⟩) r0 _) (a := ⟨w.heap.size + 1,0,none⟩) r1 _) (a := ⟨w.heap.size + 1,1,none⟩) r1 _) (a := ⟨w.heap.size + 1,2,none⟩) r1 _) (a := ⟨w.heap.size + 1,3,none⟩) r1 _).mono (by omega)
  · exact (((((h.below.setCell (p := ⟨w.heap.size,2,none⟩) (Nat.le_refl _) _).setCell (p := ⟨w.heap.size,1,none⟩) (Nat.le_refl _) _).setCell (p := ⟨w.heap.size + 1,0,none⟩) k1 _).setCell (p := ⟨w.heap.size + 1,1,none⟩) k1 _).setCell (p := ⟨w.heap.size + 1,2,none⟩) k1 _).setCell (p := ⟨w.heap.size + 1,3,none⟩) k1 _
theorem trim_row (w1 : World) (t : TypeId) (size : Nat := 1) : (w1.alloc (.cells #[] t)).ownsRow w1.heap.size t size (.slice (some ⟨w1.heap.size,0,none⟩) 0 0) 0 [] := by
  have h := World.ownsRow_lit (base := w1.heap.size) (e := t) (size := size) w1 #[] 0 (Nat.le_refl _) (by unfold maxLen; omega) (by simp)
  simpa using h
set_option maxRecDepth 100000 in
set_option maxHeartbeats 4000000 in
theorem spec_trim (recs : List ByteArray) (curs : List (Int × Int)) (P : Nat) (w : World) (hr : StrIn w ra rl rc recs) (hc : Curs w ca cl curs) (hrl : rl ≤ 1048577) (hcl : cl ≤ 1048576) (hrc : rc ≤ maxLen) (_hf : 0 ≤ first ∧ first ≤ 1000000) (hP : curLeast first curs = first + (P : Int)) (hPl : P ≤ rl) :
    Calls Tryz.prog 115 #[ringV cap first ra rl rc ca cl cc] w fun e w' => ∃ a q,e = .returned (ringV cap (first + (P : Int)) a (rl - P) q ca cl cc) ∧ w'.ownsRow w.heap.size 9 1 (.slice a (rl - P) q) (rl - P) ((recs.drop P).map Value.string) ∧ Below w.heap.size w w' := by
  obtain ⟨i0,hi0,hz0,hz1,hz2⟩ := info_parts info_str
  have HLE : Hid _ := fun w hc => spec_least cap first ra rl rc ca cl cc curs w hc hcl
  rw [hP] at HLE
  have HR : Hid (StrIn w ra rl rc recs) := hr
  have HC : Hid (Curs w ca cl curs) := hc
  have HL : Hid (recs.length = rl) := hr.strs.1
  have HS0 : Hid (SCopy w ((w.alloc (ringObj cap first ra rl rc ca cl cc)).alloc (ringObj 0 0 none 0 0 none 0 0)) cap first ra rl rc ca cl cc) := scopy_start w cap first ra rl rc ca cl cc
  clear hr hc hP
  unfold maxLen at hrc
  go_enter Tryz.func115,Tryz.ntmps115
  go_wp2_with fail
  refine (HLE.out _ (curs_below HC.out HS0.out.below)).mono ?_
  rintro e w1 ⟨rfl,hb1⟩
  have hs1 := HS0.out.grown (below_grown hb1) (fun j e => by cases e)
  have HS1 : Hid (SCopy w (w1.alloc (.cells #[] 9)) cap first ra rl rc ca cl cc) := hs1.alloc _
  have g0 := fun o => cell_of_block0 hs1.b0 o
  have hz1' := hs1.size
  have hz1'' : w.heap.size < w1.heap.size := by omega
  have HB1 : Hid (Below w.heap.size w w1) := hs1.below
  clear hs1 hb1
  have hsub : first + (P : Int) - first = (P : Int) := by omega
  by_cases hrp : rc = P
  · have hrlP : rl = P := by have := HR.out.cap; omega
    subst hrp
    subst hrlP
    have HD : Hid ((recs.drop rl).map Value.string = []) := show _ = _ by rw [List.drop_eq_nil_of_le (by rw [HL.out]; exact Nat.le_refl _)]; rfl
    go_wp2_with (at_builtin; refine wpList_append_own_any (by rfl) _ _ 43 (by rfl) w1.heap.size 9 i0 _ 1 16 Tryz.underlying43 hi0 hz0 hz1 hz2 (by rfl) (by omega) (.slice (some ⟨w1.heap.size,0,none⟩) 0 0) 0 [] (by rfl) (trim_row _ _) ra 0 0 [] (by rfl) (by rfl) (fun _ => ⟨rfl,rfl⟩) (fun ad e j u h => by simp at h) (fun u h => by cases h) (by unfold maxLen; omega) (by omega) (by simp) ?_; intro v1 w2 ho2 hg2; simp only [Nat.zero_add,List.nil_append] at ho2; obtain ⟨a1,c1,rfl⟩ := own_strV ho2; have hs2 := HS1.out.grown hg2 (fun j e => by simp [Value.ownBlock] at e; omega); have g1 := fun o => cell_of_block0 hs2.b0 o; have f1 := fun o => unfrozen_of_block0 hs2.b0 o; have g2 := fun o => cell_of_block0 hs2.b1 o; have f2 := fun o => unfrozen_of_block0 hs2.b1 o; have HF : Hid _ := trim_end (f := first + (rl : Int)) hs2 ho2 hz1'; clear hs2 ho2 hg2)
    obtain ⟨hx,hy⟩ := HF.out
    exact bodyPost_ret (v := ringV cap (first + (rl : Int)) a1 (0) c1 ca cl cc) (by simp [results,Tryz.results115,go_sem,g2]) rfl ⟨a1,c1,by rw [Nat.sub_self],by rw [Nat.sub_self,HD.out]; exact hx,hy⟩
  · obtain ⟨b,off,rfl⟩ : ∃ b off,ra = some ⟨b,off,none⟩ := by
      cases ra with
      | none => have := HR.out.nil rfl; omega
      | some x => exact ⟨x.block,x.off,by rw [← HR.out.off x rfl]⟩
    have hcap := HR.out.cap
    have hlt : P < rc := by omega
    have HST : Hid (Strs w (some ⟨b,off + P,none⟩) (rl - P) (recs.drop P)) := strs_drop HR.out.strs hPl
    go_wp2_with (at_builtin; refine wpList_append_own_any (by rfl) _ _ 43 (by rfl) w1.heap.size 9 i0 _ 1 16 Tryz.underlying43 hi0 hz0 hz1 hz2 (by rfl) (by omega) (.slice (some ⟨w1.heap.size,0,none⟩) 0 0) 0 [] (by rfl) (trim_row _ _) (some ⟨b,off + P,none⟩) (rl - P) (rc - P) ((recs.drop P).map Value.string) (by rfl) (by rw [List.length_map,List.length_drop,HL.out]; omega) (fun e => by cases e) (strs_news (strs_below HST.out HS1.out.below)) (strCells_one _) (by unfold maxLen; omega) (by omega) (by simp) ?_; intro v1 w2 ho2 hg2; simp only [Nat.zero_add,List.nil_append] at ho2; obtain ⟨a1,c1,rfl⟩ := own_strV ho2; have hs2 := HS1.out.grown hg2 (fun j e => by simp [Value.ownBlock] at e; omega); have g1 := fun o => cell_of_block0 hs2.b0 o; have f1 := fun o => unfrozen_of_block0 hs2.b0 o; have g2 := fun o => cell_of_block0 hs2.b1 o; have f2 := fun o => unfrozen_of_block0 hs2.b1 o; have HF : Hid _ := trim_end (f := first + (P : Int)) hs2 ho2 hz1'; clear hs2 ho2 hg2)
    obtain ⟨hx,hy⟩ := HF.out
    exact bodyPost_ret (v := ringV cap (first + (P : Int)) a1 (rl - P) c1 ca cl cc) (by simp [results,Tryz.results115,go_sem,g2]) rfl ⟨a1,c1,rfl,hx,hy⟩
end Go.Proofs.YtahccighonddaaaGreatDoor
namespace Go.Proofs.YtahccighonddaaaGreatDoor
open Go.RowKit
variable {cap first : Int} {ra ca : Option Addr} {rl rc cl cc : Nat}
end Go.Proofs.YtahccighonddaaaGreatDoor
namespace Go.Proofs.YtahccighonddaaaGreatDoor
open Go.RowKit
variable {cap first : Int} {ra ca : Option Addr} {rl rc cl cc : Nat}
def recAt (recs : List ByteArray) (K : Nat) : Int × Int × ByteArray × Nat := readRes (recs.getD K ⟨#[]⟩)
set_option maxRecDepth 100000 in
set_option maxHeartbeats 1000000 in
theorem spec_lat (recs : List ByteArray) (K : Nat) (w : World) (hr : StrIn w ra rl rc recs) (hs : ∀ s ∈ recs,s.size ≤ maxLen) (hK : K < rl) (hrl : rl ≤ 1048576) :
    Calls Tryz.prog 64 #[ringV cap first ra rl rc ca cl cc,.int .i64 (first + (K : Int))] w fun e w' => e = .returned (recV (recAt recs K).1 (recAt recs K).2.1 (recAt recs K).2.2.1) ∧ Below w.heap.size w w' := by
  have hKl : K < recs.length := by rw [hr.strs.1]; exact hK
  have hB0 : Below w.heap.size w ((w.alloc (ringObj cap first ra rl rc ca cl cc)).alloc (.cells #[.int .i64 0,.int .i64 0,.string ⟨#[]⟩] 65)) := ((Below.refl _ _).alloc (Nat.le_refl _) _).alloc (by simp) _
  obtain ⟨b,off,e1,hc⟩ := (strs_below hr.strs hB0).2 K hKl
  have hg : recs.getD K ⟨#[]⟩ = recs[K] := by rw [List.getD_eq_getElem?_getD,List.getElem?_eq_getElem hKl]; rfl
  have HRD : Hid _ := fun w => spec_recRead recs[K] w (hs _ (List.getElem_mem hKl))
  have hra : recAt recs K = readRes recs[K] := by unfold recAt; rw [hg]
  rw [hra]
  clear hg hra
  obtain ⟨V,hV⟩ : ∃ V,recs[K] = V := ⟨_,rfl⟩
  rw [hV] at hc HRD ⊢
  clear hV hKl hs hr
  obtain ⟨R,hR⟩ : ∃ R,readRes V = R := ⟨_,rfl⟩
  rw [hR] at HRD ⊢
  clear hR
  obtain ⟨r1,r2,r3,r4⟩ := R
  have HRE : Hid (∀ w,Calls Tryz.prog 114 #[.string V] w fun e w' => e = .returned (.agg #[.int .i64 r1,.int .i64 r2,.string r3,.int .i64 (r4 : Int)]) ∧ Below w.heap.size w w') := HRD.out
  clear HRD
  subst e1
  have hsub : first + (K : Int) - first = (K : Int) := by omega
  have hfd := field_rec r1 r2 r3 (r4 : Int)
  have hKi : (K : Int) < (rl : Int) := by omega
  have HB0 : Hid _ := hB0
  clear hB0
  go_enter Tryz.func64,Tryz.ntmps64
  go_wp2_with fail
  refine (HRE.out _).mono ?_
  rintro e w1 ⟨rfl,hb1⟩
  have hc1 := fun o => hb1.cell (p := ⟨w.heap.size + 1,o,none⟩) (by simp)
  have hf1 := fun o => hb1.frozen (p := ⟨w.heap.size + 1,o,none⟩) (by simp)
  have HB1 : Hid (Below w.heap.size w w1) := below_tr HB0.out hb1
  clear hb1
  go_wp2
  exact bodyPost_ret (v := recV r1 r2 r3) (by simp [results,Tryz.results64,go_sem,hc1]) rfl ⟨rfl,((HB1.out.setCell (p := ⟨w.heap.size + 1,0,none⟩) (Nat.le_succ _) _).setCell (p := ⟨w.heap.size + 1,1,none⟩) (Nat.le_succ _) _).setCell (p := ⟨w.heap.size + 1,2,none⟩) (Nat.le_succ _) _⟩
end Go.Proofs.YtahccighonddaaaGreatDoor
namespace Go.Proofs.YtahccighonddaaaGreatDoor
open Go.RowKit
attribute [local go_sem ↓] Go.wp_at_zero Go.wp_at_succ
set_option linter.unusedSimpArgs false
theorem field_rec1 (k t : Int) (d : ByteArray) (w : World) : (Instr.field 65 (recV k t d) 1).run Tryz.prog w = .ok (.int .i64 t) w := by kernel_rfl
structure LW (w v : World) (o : Obj) (X : Nat) (r : RD) (ta : Option Addr) (tl : Nat) (ts : List TD) : Prop where
  fb : FB w v o
  box : v.heap[X]? = some r.obj
  fit : r.fit v
  txs : Txs v ta tl ts
theorem LW.under {w u v : World} {o : Obj} {X : Nat} {r : RD} {ta : Option Addr} {tl : Nat} {ts : List TD} (h : LW w u o X r ta tl ts) (hb : Below u.heap.size u v) : LW w v o X r ta tl ts :=
  ⟨h.fb.under hb,(hb.block _ (fb_lt h.box)).trans h.box,h.fit.below hb,txs_below h.txs hb⟩
theorem rfit_no1 {ts : List TD} {k : Int} {r : RD} (h : ringRightB r.cap r.first r.recs r.curs = false) : ringFitB ts k r = false := by simp [ringFitB,h]
theorem rfit_no2 {ts : List TD} {k : Int} {r : RD} (h : r.cap - (r.recs.length : Int) < (owedN ts k : Int)) : ringFitB ts k r = false := by
  have : ¬ (owedN ts k : Int) ≤ r.cap - (r.recs.length : Int) := by omega
  simp [ringFitB,this]
theorem rfit_no3 {ts : List TD} {k : Int} {r : RD} (h : ¬ r.first + (r.recs.length : Int) + (owedN ts k : Int) ≤ 1000000) : ringFitB ts k r = false := by simp [ringFitB,h]
theorem rfit_no4 {ts : List TD} {k : Int} {r : RD} (h : r.recs.all (recFitB ts k) = false) : ringFitB ts k r = false := by simp only [ringFitB,h,Bool.and_false]
theorem rfit_yes {ts : List TD} {k : Int} {r : RD} (h1 : ringRightB r.cap r.first r.recs r.curs = true) (h2 : ¬ r.cap - (r.recs.length : Int) < (owedN ts k : Int)) (h3 : r.first + (r.recs.length : Int) + (owedN ts k : Int) ≤ 1000000) (h4 : r.recs.all (recFitB ts k) = true) : ringFitB ts k r = true := by
  have : (owedN ts k : Int) ≤ r.cap - (r.recs.length : Int) := by omega
  simp only [ringFitB,h1,h4,decide_eq_true this,decide_eq_true h3,Bool.and_true]
theorem rec_num {cap first : Int} {recs : List ByteArray} {curs : List (Int × Int)} (h : ringRightB cap first recs curs = true) {K : Nat} (hK : K < recs.length) : 1 ≤ (recAt recs K).2.1 ∧ (recAt recs K).2.1 ≤ 1000000 ∧ recAt recs K = readRes recs[K] := by
  have hr : recsOk recs = true := by simp [ringRightB] at h; exact h.1.1.2
  have hg : recs.getD K ⟨#[]⟩ = recs[K] := by rw [List.getD_eq_getElem?_getD,List.getElem?_eq_getElem hK]; rfl
  have e : recAt recs K = readRes recs[K] := by unfold recAt; rw [hg]
  have h1 : recOkB recs[K] = true := List.all_eq_true.1 hr _ (List.getElem_mem hK)
  rcases readRes_cases recs[K] with ⟨c,hc,h2⟩ | ⟨a,t,d,h2,h3⟩
  · simp [recOkB,h2,hc] at h1
  · simp [recRightB] at h3
    rw [e,h2]
    exact ⟨h3.1.1.2.1,h3.1.1.2.2,rfl⟩
set_option maxRecDepth 100000 in
set_option maxHeartbeats 16000000 in
theorem spec_lring (ra : Option Addr) (rl rc : Nat) (ea : Option Addr) (el ec : Nat) (ta : Option Addr) (tl tc : Nat) (now : Int) (rs : List RD) (ts : List TD) (k : Nat) (r : RD) (w : World) (hR : Rngs w ra rl rs) (hT : Txs w ta tl ts) (hk : rs[k]? = some r) (_hrl : rl ≤ 1048576) (htl : tl ≤ 1048576) :
    Calls Tryz.prog 125 #[fabVal ra rl rc ea el ec ta tl tc now,.int .i64 k] w fun e w' => e = .returned (.bool (ringFitB ts k r)) ∧ Below w.heap.size w w' := by
  have hkl : k < rl := by rw [← hR.1]; exact (List.getElem?_eq_some_iff.1 hk).1
  have HT : Hid (Txs w ta tl ts) := hT
  have HL : Hid (ts.length = tl) := hT.1
  have hF0 := fb_new w #[.slice ra rl rc,.slice ea el ec,.slice ta tl tc,.int .i64 now] 31
  obtain ⟨b,off,r',rfl,e1,g0,g1,g2,g3,hf⟩ := rngsG_at keeps_fit hR hF0.bel hkl
  obtain rfl : r = r' := Option.some.inj (hk.symm.trans e1)
  clear hT hR e1 hk
  have H0 : Hid (LW w ((w.alloc (fabO (some ⟨b,off,none⟩) rl rc ea el ec ta tl tc now)).alloc r.obj) (fabO (some ⟨b,off,none⟩) rl rc ea el ec ta tl tc now) (w.heap.size + 1) r ta tl ts) :=
    ⟨hF0.under (fbelow_new _ _),by have h := heap_alloc_new (w.alloc (fabO (some ⟨b,off,none⟩) rl rc ea el ec ta tl tc now)) r.obj; rwa [World.size_alloc] at h,hf.out.below (fbelow_new _ _),txs_below HT.out (below_tr hF0.bel (fbelow_new _ _))⟩
  clear hF0 hf HT
  obtain ⟨cap,first,ra',rl',rc',ca',cl',cc',recs,curs⟩ := r
  simp only at g0 g1 g2 g3
  have hrl' : rl' ≤ 1048576 := H0.out.fit.rle
  have hlen : recs.length = rl' := H0.out.fit.str.strs.1
  have HR : Hid _ := fun w (h : RFit w ra' rl' rc' ca' cl' cc' recs curs) => spec_ringRight cap first ra' rl' rc' ca' cl' cc' recs curs w h.str.strs h.cur.curs h.rin.sz' h.rle h.cle
  have HO : Hid _ := fun w (h : Txs w ta tl ts) => spec_lowed (some ⟨b,off,none⟩) rl rc ea el ec ta tl tc now (k : Int) ts w h htl
  obtain ⟨N,hN⟩ : ∃ N,owedN ts (k : Int) = N := ⟨_,rfl⟩
  have hNl : N ≤ tl := by rw [← hN,← HL.out]; exact owedN_le _ _
  rw [hN] at HO
  have HNN : Hid _ := hN
  clear hN
  obtain ⟨R,hRR⟩ : ∃ R,ringRightB cap first recs curs = R := ⟨_,rfl⟩
  rw [hRR] at HR
  go_enter Tryz.func125,Tryz.ntmps125
  go_upto_region 2 with fail
  have H1 : Hid (LW w ((w.alloc (fabO (some ⟨b,off,none⟩) rl rc ea el ec ta tl tc now)).alloc (ringObj cap first ra' rl' rc' ca' cl' cc')).drew (fabO (some ⟨b,off,none⟩) rl rc ea el ec ta tl tc now) (w.heap.size + 1) ⟨cap,first,ra',rl',rc',ca',cl',cc',recs,curs⟩ ta tl ts) := H0.out.under ((Below.refl _ _).drew)
  clear H0
  cases R with
  | false =>
    have hE : Hid (ringFitB ts (k : Int) ⟨cap,first,ra',rl',rc',ca',cl',cc',recs,curs⟩ = false) := rfit_no1 hRR
    clear hRR
    refine wp_region_held_drew (S := (fun x => (∀ o,x.cell? ⟨w.heap.size + 1,o,none⟩ = (#[.int .i64 cap,.int .i64 first,.slice ra' rl' rc',.slice ca' cl' cc'] : Array Value)[o]?) ∧ (∀ o,x.cell? ⟨w.heap.size,o,none⟩ = (#[.slice (some ⟨b,off,none⟩) rl rc,.slice ea el ec,.slice ta tl tc,.int .i64 now] : Array Value)[o]?))) (by kernel_rfl) (⟨fun o => fb_cell H1.out.box o,fun o => fb_cell H1.out.fb.box o⟩) (fun hHeld => ?_)
    refine tk (i := 0) (v := ?_) rfl hHeld (.inl ⟨by rfl,?_⟩) ?_
    rotate_left
    · intro wy hSw; (try dsimp only at hSw); go_simp; (try with_reducible rfl)
    try simp only [Act.put,n1,n2,n3,n4,n5,n6]
    refine wpAnyH_ready (rs := [1]) (by kernel_rfl) (by simp) ?_
    refine AllReadyH.cons rfl (fun K hK => ?_) AllReadyH.nil
    go_simp
    refine (HR.out _ H1.out.fit).mono ?_; rintro x v ⟨rfl,hbv⟩; have H1 : Hid (LW w v (fabO (some ⟨b,off,none⟩) rl rc ea el ec ta tl tc now) (w.heap.size + 1) ⟨cap,first,ra',rl',rc',ca',cl',cc',recs,curs⟩ ta tl ts) := H1.out.under hbv; clear hbv
    go_wp2_with fail
    refine hK.out _ _ ?_ (fun hHeld => ?_)
    · exact ⟨fun o => fb_cell H1.out.box o,fun o => fb_cell H1.out.fb.box o⟩
    clear hK K
    try simp only [Act.put,n1,n2,n3,n4,n5,n6]
    refine tk (i := 2) (v := ?_) rfl hHeld (.inl ⟨by rfl,?_⟩) ?_
    rotate_left
    · intro wy hSw; (try dsimp only at hSw); go_simp; (try with_reducible rfl)
    try simp only [Act.put,n1,n2,n3,n4,n5,n6]
    refine tk (i := 3) (v := ?_) rfl hHeld (.inl ⟨by rfl,?_⟩) ?_
    rotate_left
    · intro wy hSw; (try dsimp only at hSw); go_simp; (try with_reducible rfl)
    try simp only [Act.put,n1,n2,n3,n4,n5,n6]
    refine tk (i := 4) (v := undef) rfl hHeld (.inr ⟨by rfl,rfl⟩) ?_
    try simp only [Act.put,n1,n2,n3,n4,n5,n6]
    refine tk (i := 5) (v := undef) rfl hHeld (.inr ⟨by rfl,rfl⟩) ?_
    try simp only [Act.put,n1,n2,n3,n4,n5,n6]
    refine tk (i := 6) (v := undef) rfl hHeld (.inr ⟨by rfl,rfl⟩) ?_
    try simp only [Act.put,n1,n2,n3,n4,n5,n6]
    refine tk (i := 7) (v := undef) rfl hHeld (.inr ⟨by rfl,rfl⟩) ?_
    try simp only [Act.put,n1,n2,n3,n4,n5,n6]
    refine tk (i := 8) (v := undef) rfl hHeld (.inr ⟨by rfl,rfl⟩) ?_
    try simp only [Act.put,n1,n2,n3,n4,n5,n6]
    refine tk (i := 9) (v := undef) rfl hHeld (.inr ⟨by rfl,rfl⟩) ?_
    try simp only [Act.put,n1,n2,n3,n4,n5,n6]
    refine tk (i := 10) (v := ?_) rfl hHeld (.inl ⟨by rfl,?_⟩) ?_
    rotate_left
    · intro wy hSw; (try dsimp only at hSw); go_simp; (try with_reducible rfl)
    try simp only [Act.put,n1,n2,n3,n4,n5,n6]
    refine tk (i := 11) (v := ?_) rfl hHeld (.inl ⟨by rfl,?_⟩) ?_
    rotate_left
    · intro wy hSw; (try dsimp only at hSw); go_simp; (try with_reducible rfl)
    try simp only [Act.put,n1,n2,n3,n4,n5,n6]
    refine tk (i := 12) (v := undef) rfl hHeld (.inr ⟨by rfl,rfl⟩) ?_
    try simp only [Act.put,n1,n2,n3,n4,n5,n6]
    refine tk (i := 13) (v := undef) rfl hHeld (.inr ⟨by rfl,rfl⟩) ?_
    try simp only [Act.put,n1,n2,n3,n4,n5,n6]
    refine tk (i := 14) (v := undef) rfl hHeld (.inr ⟨by rfl,rfl⟩) ?_
    try simp only [Act.put,n1,n2,n3,n4,n5,n6]
    refine tk (i := 15) (v := undef) rfl hHeld (.inr ⟨by rfl,rfl⟩) ?_
    try simp only [Act.put,n1,n2,n3,n4,n5,n6]
    refine tk (i := 16) (v := undef) rfl hHeld (.inr ⟨by rfl,rfl⟩) ?_
    try simp only [Act.put,n1,n2,n3,n4,n5,n6]
    refine tk (i := 17) (v := undef) rfl hHeld (.inr ⟨by rfl,rfl⟩) ?_
    try simp only [Act.put,n1,n2,n3,n4,n5,n6]
    refine tk (i := 18) (v := undef) rfl hHeld (.inr ⟨by rfl,rfl⟩) ?_
    try simp only [Act.put,n1,n2,n3,n4,n5,n6]
    refine tk (i := 19) (v := ?_) rfl hHeld (.inl ⟨by rfl,?_⟩) ?_
    rotate_left
    · intro wy hSw; (try dsimp only at hSw); go_simp; (try with_reducible rfl)
    try simp only [Act.put,n1,n2,n3,n4,n5,n6]
    refine wpAnyH_done (by kernel_rfl) ?_ _
    go_wp2
    go_ret
    exact ⟨ret_bool hE.out.symm,H1.out.fb.bel⟩
  | true =>
    obtain ⟨hF,hC,_,hEd,_⟩ := right_first hRR
    have HRR : Hid (ringRightB cap first recs curs = true) := hRR
    rw [hlen] at hEd
    have HM : Hid (∀ w,True → _) := fun w _ => spec_room cap first ra' rl' rc' ca' cl' cc' w (by omega) hrl'
    have HE : Hid (∀ w,True → _) := fun w _ => spec_end cap first ra' rl' rc' ca' cl' cc' w hF hrl'
    clear hRR
    have hw1 : IntKind.i64.wrap (first + (rl' : Int) + (N : Int)) = first + (rl' : Int) + (N : Int) := twrap_in _ (by omega) (by omega)
    by_cases hB : cap - (rl' : Int) < (N : Int)
    · have hE : Hid (ringFitB ts (k : Int) ⟨cap,first,ra',rl',rc',ca',cl',cc',recs,curs⟩ = false) := rfit_no2 (show cap - (recs.length : Int) < _ by rw [HNN.out,hlen]; exact hB)
      refine wp_region_held_drew (S := (fun x => (∀ o,x.cell? ⟨w.heap.size + 1,o,none⟩ = (#[.int .i64 cap,.int .i64 first,.slice ra' rl' rc',.slice ca' cl' cc'] : Array Value)[o]?) ∧ (∀ o,x.cell? ⟨w.heap.size,o,none⟩ = (#[.slice (some ⟨b,off,none⟩) rl rc,.slice ea el ec,.slice ta tl tc,.int .i64 now] : Array Value)[o]?))) (by kernel_rfl) (⟨fun o => fb_cell H1.out.box o,fun o => fb_cell H1.out.fb.box o⟩) (fun hHeld => ?_)
      refine tk (i := 0) (v := ?_) rfl hHeld (.inl ⟨by rfl,?_⟩) ?_
      rotate_left
      · intro wy hSw; (try dsimp only at hSw); go_simp; (try with_reducible rfl)
      try simp only [Act.put,n1,n2,n3,n4,n5,n6]
      refine wpAnyH_ready (rs := [1]) (by kernel_rfl) (by simp) ?_
      refine AllReadyH.cons rfl (fun K hK => ?_) AllReadyH.nil
      go_simp
      refine (HR.out _ H1.out.fit).mono ?_; rintro x v ⟨rfl,hbv⟩; have H1 : Hid (LW w v (fabO (some ⟨b,off,none⟩) rl rc ea el ec ta tl tc now) (w.heap.size + 1) ⟨cap,first,ra',rl',rc',ca',cl',cc',recs,curs⟩ ta tl ts) := H1.out.under hbv; clear hbv
      go_wp2_with fail
      refine hK.out _ _ ?_ (fun hHeld => ?_)
      · exact ⟨fun o => fb_cell H1.out.box o,fun o => fb_cell H1.out.fb.box o⟩
      clear hK K
      try simp only [Act.put,n1,n2,n3,n4,n5,n6]
      refine tk (i := 2) (v := ?_) rfl hHeld (.inl ⟨by rfl,?_⟩) ?_
      rotate_left
      · intro wy hSw; (try dsimp only at hSw); go_simp; (try with_reducible rfl)
      try simp only [Act.put,n1,n2,n3,n4,n5,n6]
      refine tk (i := 3) (v := ?_) rfl hHeld (.inl ⟨by rfl,?_⟩) ?_
      rotate_left
      · intro wy hSw; (try dsimp only at hSw); go_simp; (try with_reducible rfl)
      try simp only [Act.put,n1,n2,n3,n4,n5,n6]
      refine tk (i := 4) (v := ?_) rfl hHeld (.inl ⟨by rfl,?_⟩) ?_
      rotate_left
      · intro wy hSw; (try dsimp only at hSw); go_simp; (try with_reducible rfl)
      try simp only [Act.put,n1,n2,n3,n4,n5,n6]
      refine tk (i := 6) (v := ?_) rfl hHeld (.inl ⟨by rfl,?_⟩) ?_
      rotate_left
      · intro wy hSw; (try dsimp only at hSw); go_simp; (try with_reducible rfl)
      try simp only [Act.put,n1,n2,n3,n4,n5,n6]
      refine tk (i := 7) (v := ?_) rfl hHeld (.inl ⟨by rfl,?_⟩) ?_
      rotate_left
      · intro wy hSw; (try dsimp only at hSw); go_simp; (try with_reducible rfl)
      try simp only [Act.put,n1,n2,n3,n4,n5,n6]
      refine wpAnyH_ready (rs := [5]) (by kernel_rfl) (by simp) ?_
      refine AllReadyH.cons rfl (fun K hK => ?_) AllReadyH.nil
      go_simp
      refine (HM.out _ trivial).mono ?_; rintro x v ⟨rfl,hbv⟩; have H1 : Hid (LW w v (fabO (some ⟨b,off,none⟩) rl rc ea el ec ta tl tc now) (w.heap.size + 1) ⟨cap,first,ra',rl',rc',ca',cl',cc',recs,curs⟩ ta tl ts) := H1.out.under hbv; clear hbv
      go_wp2_with fail
      refine hK.out _ _ ?_ (fun hHeld => ?_)
      · exact ⟨fun o => fb_cell H1.out.box o,fun o => fb_cell H1.out.fb.box o⟩
      clear hK K
      try simp only [Act.put,n1,n2,n3,n4,n5,n6]
      refine wpAnyH_ready (rs := [8]) (by kernel_rfl) (by simp) ?_
      refine AllReadyH.cons rfl (fun K hK => ?_) AllReadyH.nil
      go_simp
      refine (HO.out _ H1.out.txs).mono ?_; rintro x v ⟨rfl,hbv⟩; have H1 : Hid (LW w v (fabO (some ⟨b,off,none⟩) rl rc ea el ec ta tl tc now) (w.heap.size + 1) ⟨cap,first,ra',rl',rc',ca',cl',cc',recs,curs⟩ ta tl ts) := H1.out.under hbv; clear hbv
      go_wp2_with fail
      refine hK.out _ _ ?_ (fun hHeld => ?_)
      · exact ⟨fun o => fb_cell H1.out.box o,fun o => fb_cell H1.out.fb.box o⟩
      clear hK K
      try simp only [Act.put,n1,n2,n3,n4,n5,n6]
      refine tk (i := 9) (v := ?_) rfl hHeld (.inl ⟨by rfl,?_⟩) ?_
      rotate_left
      · intro wy hSw; (try dsimp only at hSw); go_simp; (try with_reducible rfl)
      try simp only [Act.put,n1,n2,n3,n4,n5,n6]
      refine tk (i := 10) (v := ?_) rfl hHeld (.inl ⟨by rfl,?_⟩) ?_
      rotate_left
      · intro wy hSw; (try dsimp only at hSw); go_simp; (try with_reducible rfl)
      try simp only [Act.put,n1,n2,n3,n4,n5,n6]
      refine tk (i := 11) (v := ?_) rfl hHeld (.inl ⟨by rfl,?_⟩) ?_
      rotate_left
      · intro wy hSw; (try dsimp only at hSw); go_simp; (try with_reducible rfl)
      try simp only [Act.put,n1,n2,n3,n4,n5,n6]
      refine tk (i := 12) (v := undef) rfl hHeld (.inr ⟨by rfl,rfl⟩) ?_
      try simp only [Act.put,n1,n2,n3,n4,n5,n6]
      refine tk (i := 13) (v := undef) rfl hHeld (.inr ⟨by rfl,rfl⟩) ?_
      try simp only [Act.put,n1,n2,n3,n4,n5,n6]
      refine tk (i := 14) (v := undef) rfl hHeld (.inr ⟨by rfl,rfl⟩) ?_
      try simp only [Act.put,n1,n2,n3,n4,n5,n6]
      refine tk (i := 15) (v := undef) rfl hHeld (.inr ⟨by rfl,rfl⟩) ?_
      try simp only [Act.put,n1,n2,n3,n4,n5,n6]
      refine tk (i := 16) (v := undef) rfl hHeld (.inr ⟨by rfl,rfl⟩) ?_
      try simp only [Act.put,n1,n2,n3,n4,n5,n6]
      refine tk (i := 17) (v := undef) rfl hHeld (.inr ⟨by rfl,rfl⟩) ?_
      try simp only [Act.put,n1,n2,n3,n4,n5,n6]
      refine tk (i := 18) (v := undef) rfl hHeld (.inr ⟨by rfl,rfl⟩) ?_
      try simp only [Act.put,n1,n2,n3,n4,n5,n6]
      refine tk (i := 19) (v := ?_) rfl hHeld (.inl ⟨by rfl,?_⟩) ?_
      rotate_left
      · intro wy hSw; (try dsimp only at hSw); go_simp; (try with_reducible rfl)
      try simp only [Act.put,n1,n2,n3,n4,n5,n6]
      refine wpAnyH_done (by kernel_rfl) ?_ _
      go_wp2
      go_ret
      exact ⟨ret_bool hE.out.symm,H1.out.fb.bel⟩
    have hBB : Hid (¬ cap - (rl' : Int) < (N : Int)) := hB
    have hBd : decide (cap - (rl' : Int) < (N : Int)) = false := decide_eq_false hB
    clear hB
    by_cases hG : first + (rl' : Int) + (N : Int) ≤ 1000000
    case neg =>
      have hE : Hid (ringFitB ts (k : Int) ⟨cap,first,ra',rl',rc',ca',cl',cc',recs,curs⟩ = false) := rfit_no3 (show ¬ first + (recs.length : Int) + _ ≤ 1000000 by rw [HNN.out,hlen]; exact hG)
      have hG' : 1000000 < first + (rl' : Int) + (N : Int) := by omega
      refine wp_region_held_drew (S := (fun x => (∀ o,x.cell? ⟨w.heap.size + 1,o,none⟩ = (#[.int .i64 cap,.int .i64 first,.slice ra' rl' rc',.slice ca' cl' cc'] : Array Value)[o]?) ∧ (∀ o,x.cell? ⟨w.heap.size,o,none⟩ = (#[.slice (some ⟨b,off,none⟩) rl rc,.slice ea el ec,.slice ta tl tc,.int .i64 now] : Array Value)[o]?))) (by kernel_rfl) (⟨fun o => fb_cell H1.out.box o,fun o => fb_cell H1.out.fb.box o⟩) (fun hHeld => ?_)
      refine tk (i := 0) (v := ?_) rfl hHeld (.inl ⟨by rfl,?_⟩) ?_
      rotate_left
      · intro wy hSw; (try dsimp only at hSw); go_simp; (try with_reducible rfl)
      try simp only [Act.put,n1,n2,n3,n4,n5,n6]
      refine wpAnyH_ready (rs := [1]) (by kernel_rfl) (by simp) ?_
      refine AllReadyH.cons rfl (fun K hK => ?_) AllReadyH.nil
      go_simp
      refine (HR.out _ H1.out.fit).mono ?_; rintro x v ⟨rfl,hbv⟩; have H1 : Hid (LW w v (fabO (some ⟨b,off,none⟩) rl rc ea el ec ta tl tc now) (w.heap.size + 1) ⟨cap,first,ra',rl',rc',ca',cl',cc',recs,curs⟩ ta tl ts) := H1.out.under hbv; clear hbv
      go_wp2_with fail
      refine hK.out _ _ ?_ (fun hHeld => ?_)
      · exact ⟨fun o => fb_cell H1.out.box o,fun o => fb_cell H1.out.fb.box o⟩
      clear hK K
      try simp only [Act.put,n1,n2,n3,n4,n5,n6]
      refine tk (i := 2) (v := ?_) rfl hHeld (.inl ⟨by rfl,?_⟩) ?_
      rotate_left
      · intro wy hSw; (try dsimp only at hSw); go_simp; (try with_reducible rfl)
      try simp only [Act.put,n1,n2,n3,n4,n5,n6]
      refine tk (i := 3) (v := ?_) rfl hHeld (.inl ⟨by rfl,?_⟩) ?_
      rotate_left
      · intro wy hSw; (try dsimp only at hSw); go_simp; (try with_reducible rfl)
      try simp only [Act.put,n1,n2,n3,n4,n5,n6]
      refine tk (i := 4) (v := ?_) rfl hHeld (.inl ⟨by rfl,?_⟩) ?_
      rotate_left
      · intro wy hSw; (try dsimp only at hSw); go_simp; (try with_reducible rfl)
      try simp only [Act.put,n1,n2,n3,n4,n5,n6]
      refine tk (i := 6) (v := ?_) rfl hHeld (.inl ⟨by rfl,?_⟩) ?_
      rotate_left
      · intro wy hSw; (try dsimp only at hSw); go_simp; (try with_reducible rfl)
      try simp only [Act.put,n1,n2,n3,n4,n5,n6]
      refine tk (i := 7) (v := ?_) rfl hHeld (.inl ⟨by rfl,?_⟩) ?_
      rotate_left
      · intro wy hSw; (try dsimp only at hSw); go_simp; (try with_reducible rfl)
      try simp only [Act.put,n1,n2,n3,n4,n5,n6]
      refine wpAnyH_ready (rs := [5]) (by kernel_rfl) (by simp) ?_
      refine AllReadyH.cons rfl (fun K hK => ?_) AllReadyH.nil
      go_simp
      refine (HM.out _ trivial).mono ?_; rintro x v ⟨rfl,hbv⟩; have H1 : Hid (LW w v (fabO (some ⟨b,off,none⟩) rl rc ea el ec ta tl tc now) (w.heap.size + 1) ⟨cap,first,ra',rl',rc',ca',cl',cc',recs,curs⟩ ta tl ts) := H1.out.under hbv; clear hbv
      go_wp2_with fail
      refine hK.out _ _ ?_ (fun hHeld => ?_)
      · exact ⟨fun o => fb_cell H1.out.box o,fun o => fb_cell H1.out.fb.box o⟩
      clear hK K
      try simp only [Act.put,n1,n2,n3,n4,n5,n6]
      refine wpAnyH_ready (rs := [8]) (by kernel_rfl) (by simp) ?_
      refine AllReadyH.cons rfl (fun K hK => ?_) AllReadyH.nil
      go_simp
      refine (HO.out _ H1.out.txs).mono ?_; rintro x v ⟨rfl,hbv⟩; have H1 : Hid (LW w v (fabO (some ⟨b,off,none⟩) rl rc ea el ec ta tl tc now) (w.heap.size + 1) ⟨cap,first,ra',rl',rc',ca',cl',cc',recs,curs⟩ ta tl ts) := H1.out.under hbv; clear hbv
      go_wp2_with fail
      refine hK.out _ _ ?_ (fun hHeld => ?_)
      · exact ⟨fun o => fb_cell H1.out.box o,fun o => fb_cell H1.out.fb.box o⟩
      clear hK K
      try simp only [Act.put,n1,n2,n3,n4,n5,n6]
      refine tk (i := 9) (v := ?_) rfl hHeld (.inl ⟨by rfl,?_⟩) ?_
      rotate_left
      · intro wy hSw; (try dsimp only at hSw); go_simp; (try with_reducible rfl)
      try simp only [Act.put,n1,n2,n3,n4,n5,n6]
      refine tk (i := 10) (v := ?_) rfl hHeld (.inl ⟨by rfl,?_⟩) ?_
      rotate_left
      · intro wy hSw; (try dsimp only at hSw); go_simp; (try with_reducible rfl)
      try simp only [Act.put,n1,n2,n3,n4,n5,n6]
      refine tk (i := 11) (v := ?_) rfl hHeld (.inl ⟨by rfl,?_⟩) ?_
      rotate_left
      · intro wy hSw; (try dsimp only at hSw); go_simp; (try with_reducible rfl)
      try simp only [Act.put,n1,n2,n3,n4,n5,n6]
      refine tk (i := 12) (v := ?_) rfl hHeld (.inl ⟨by rfl,?_⟩) ?_
      rotate_left
      · intro wy hSw; (try dsimp only at hSw); go_simp; (try with_reducible rfl)
      try simp only [Act.put,n1,n2,n3,n4,n5,n6]
      refine tk (i := 14) (v := ?_) rfl hHeld (.inl ⟨by rfl,?_⟩) ?_
      rotate_left
      · intro wy hSw; (try dsimp only at hSw); go_simp; (try with_reducible rfl)
      try simp only [Act.put,n1,n2,n3,n4,n5,n6]
      refine tk (i := 15) (v := ?_) rfl hHeld (.inl ⟨by rfl,?_⟩) ?_
      rotate_left
      · intro wy hSw; (try dsimp only at hSw); go_simp; (try with_reducible rfl)
      try simp only [Act.put,n1,n2,n3,n4,n5,n6]
      refine wpAnyH_ready (rs := [13]) (by kernel_rfl) (by simp) ?_
      refine AllReadyH.cons rfl (fun K hK => ?_) AllReadyH.nil
      go_simp
      refine (HE.out _ trivial).mono ?_; rintro x v ⟨rfl,hbv⟩; have H1 : Hid (LW w v (fabO (some ⟨b,off,none⟩) rl rc ea el ec ta tl tc now) (w.heap.size + 1) ⟨cap,first,ra',rl',rc',ca',cl',cc',recs,curs⟩ ta tl ts) := H1.out.under hbv; clear hbv
      go_wp2_with fail
      refine hK.out _ _ ?_ (fun hHeld => ?_)
      · exact ⟨fun o => fb_cell H1.out.box o,fun o => fb_cell H1.out.fb.box o⟩
      clear hK K
      try simp only [Act.put,n1,n2,n3,n4,n5,n6]
      refine wpAnyH_ready (rs := [16]) (by kernel_rfl) (by simp) ?_
      refine AllReadyH.cons rfl (fun K hK => ?_) AllReadyH.nil
      go_simp
      refine (HO.out _ H1.out.txs).mono ?_; rintro x v ⟨rfl,hbv⟩; have H1 : Hid (LW w v (fabO (some ⟨b,off,none⟩) rl rc ea el ec ta tl tc now) (w.heap.size + 1) ⟨cap,first,ra',rl',rc',ca',cl',cc',recs,curs⟩ ta tl ts) := H1.out.under hbv; clear hbv
      go_wp2_with fail
      refine hK.out _ _ ?_ (fun hHeld => ?_)
      · exact ⟨fun o => fb_cell H1.out.box o,fun o => fb_cell H1.out.fb.box o⟩
      clear hK K
      try simp only [Act.put,n1,n2,n3,n4,n5,n6]
      refine tk (i := 17) (v := ?_) rfl hHeld (.inl ⟨by rfl,?_⟩) ?_
      rotate_left
      · intro wy hSw; (try dsimp only at hSw); go_simp; (try with_reducible rfl)
      try simp only [Act.put,n1,n2,n3,n4,n5,n6]
      refine tk (i := 18) (v := ?_) rfl hHeld (.inl ⟨by rfl,?_⟩) ?_
      rotate_left
      · intro wy hSw; (try dsimp only at hSw); go_simp; (try with_reducible rfl)
      try simp only [Act.put,n1,n2,n3,n4,n5,n6]
      refine tk (i := 19) (v := ?_) rfl hHeld (.inl ⟨by rfl,?_⟩) ?_
      rotate_left
      · intro wy hSw; (try dsimp only at hSw); go_simp; (try with_reducible rfl)
      try simp only [Act.put,n1,n2,n3,n4,n5,n6]
      refine wpAnyH_done (by kernel_rfl) ?_ _
      go_wp2
      go_ret
      exact ⟨ret_bool hE.out.symm,H1.out.fb.bel⟩
    have hG' : decide (1000000 < first + (rl' : Int) + (N : Int)) = false := decide_eq_false (by omega)
    go_cut [32] (fun s32 wc => s32 = .bool false ∧ Hid (LW w wc (fabO (some ⟨b,off,none⟩) rl rc ea el ec ta tl tc now) (w.heap.size + 1) ⟨cap,first,ra',rl',rc',ca',cl',cc',recs,curs⟩ ta tl ts))
    case first =>
      refine wp_region_held_drew (S := (fun x => (∀ o,x.cell? ⟨w.heap.size + 1,o,none⟩ = (#[.int .i64 cap,.int .i64 first,.slice ra' rl' rc',.slice ca' cl' cc'] : Array Value)[o]?) ∧ (∀ o,x.cell? ⟨w.heap.size,o,none⟩ = (#[.slice (some ⟨b,off,none⟩) rl rc,.slice ea el ec,.slice ta tl tc,.int .i64 now] : Array Value)[o]?))) (by kernel_rfl) (⟨fun o => fb_cell H1.out.box o,fun o => fb_cell H1.out.fb.box o⟩) (fun hHeld => ?_)
      refine tk (i := 0) (v := ?_) rfl hHeld (.inl ⟨by rfl,?_⟩) ?_
      rotate_left
      · intro wy hSw; (try dsimp only at hSw); go_simp; (try with_reducible rfl)
      try simp only [Act.put,n1,n2,n3,n4,n5,n6]
      refine wpAnyH_ready (rs := [1]) (by kernel_rfl) (by simp) ?_
      refine AllReadyH.cons rfl (fun K hK => ?_) AllReadyH.nil
      go_simp
      refine (HR.out _ H1.out.fit).mono ?_; rintro x v ⟨rfl,hbv⟩; have H1 : Hid (LW w v (fabO (some ⟨b,off,none⟩) rl rc ea el ec ta tl tc now) (w.heap.size + 1) ⟨cap,first,ra',rl',rc',ca',cl',cc',recs,curs⟩ ta tl ts) := H1.out.under hbv; clear hbv
      go_wp2_with fail
      refine hK.out _ _ ?_ (fun hHeld => ?_)
      · exact ⟨fun o => fb_cell H1.out.box o,fun o => fb_cell H1.out.fb.box o⟩
      clear hK K
      try simp only [Act.put,n1,n2,n3,n4,n5,n6]
      refine tk (i := 2) (v := ?_) rfl hHeld (.inl ⟨by rfl,?_⟩) ?_
      rotate_left
      · intro wy hSw; (try dsimp only at hSw); go_simp; (try with_reducible rfl)
      try simp only [Act.put,n1,n2,n3,n4,n5,n6]
      refine tk (i := 3) (v := ?_) rfl hHeld (.inl ⟨by rfl,?_⟩) ?_
      rotate_left
      · intro wy hSw; (try dsimp only at hSw); go_simp; (try with_reducible rfl)
      try simp only [Act.put,n1,n2,n3,n4,n5,n6]
      refine tk (i := 4) (v := ?_) rfl hHeld (.inl ⟨by rfl,?_⟩) ?_
      rotate_left
      · intro wy hSw; (try dsimp only at hSw); go_simp; (try with_reducible rfl)
      try simp only [Act.put,n1,n2,n3,n4,n5,n6]
      refine tk (i := 6) (v := ?_) rfl hHeld (.inl ⟨by rfl,?_⟩) ?_
      rotate_left
      · intro wy hSw; (try dsimp only at hSw); go_simp; (try with_reducible rfl)
      try simp only [Act.put,n1,n2,n3,n4,n5,n6]
      refine tk (i := 7) (v := ?_) rfl hHeld (.inl ⟨by rfl,?_⟩) ?_
      rotate_left
      · intro wy hSw; (try dsimp only at hSw); go_simp; (try with_reducible rfl)
      try simp only [Act.put,n1,n2,n3,n4,n5,n6]
      refine wpAnyH_ready (rs := [5]) (by kernel_rfl) (by simp) ?_
      refine AllReadyH.cons rfl (fun K hK => ?_) AllReadyH.nil
      go_simp
      refine (HM.out _ trivial).mono ?_; rintro x v ⟨rfl,hbv⟩; have H1 : Hid (LW w v (fabO (some ⟨b,off,none⟩) rl rc ea el ec ta tl tc now) (w.heap.size + 1) ⟨cap,first,ra',rl',rc',ca',cl',cc',recs,curs⟩ ta tl ts) := H1.out.under hbv; clear hbv
      go_wp2_with fail
      refine hK.out _ _ ?_ (fun hHeld => ?_)
      · exact ⟨fun o => fb_cell H1.out.box o,fun o => fb_cell H1.out.fb.box o⟩
      clear hK K
      try simp only [Act.put,n1,n2,n3,n4,n5,n6]
      refine wpAnyH_ready (rs := [8]) (by kernel_rfl) (by simp) ?_
      refine AllReadyH.cons rfl (fun K hK => ?_) AllReadyH.nil
      go_simp
      refine (HO.out _ H1.out.txs).mono ?_; rintro x v ⟨rfl,hbv⟩; have H1 : Hid (LW w v (fabO (some ⟨b,off,none⟩) rl rc ea el ec ta tl tc now) (w.heap.size + 1) ⟨cap,first,ra',rl',rc',ca',cl',cc',recs,curs⟩ ta tl ts) := H1.out.under hbv; clear hbv
      go_wp2_with fail
      refine hK.out _ _ ?_ (fun hHeld => ?_)
      · exact ⟨fun o => fb_cell H1.out.box o,fun o => fb_cell H1.out.fb.box o⟩
      clear hK K
      try simp only [Act.put,n1,n2,n3,n4,n5,n6]
      refine tk (i := 9) (v := ?_) rfl hHeld (.inl ⟨by rfl,?_⟩) ?_
      rotate_left
      · intro wy hSw; (try dsimp only at hSw); go_simp; (try with_reducible rfl)
      try simp only [Act.put,n1,n2,n3,n4,n5,n6]
      refine tk (i := 10) (v := ?_) rfl hHeld (.inl ⟨by rfl,?_⟩) ?_
      rotate_left
      · intro wy hSw; (try dsimp only at hSw); go_simp; (try with_reducible rfl)
      try simp only [Act.put,n1,n2,n3,n4,n5,n6]
      refine tk (i := 11) (v := ?_) rfl hHeld (.inl ⟨by rfl,?_⟩) ?_
      rotate_left
      · intro wy hSw; (try dsimp only at hSw); go_simp; (try with_reducible rfl)
      try simp only [Act.put,n1,n2,n3,n4,n5,n6]
      refine tk (i := 12) (v := ?_) rfl hHeld (.inl ⟨by rfl,?_⟩) ?_
      rotate_left
      · intro wy hSw; (try dsimp only at hSw); go_simp; (try with_reducible rfl)
      try simp only [Act.put,n1,n2,n3,n4,n5,n6]
      refine tk (i := 14) (v := ?_) rfl hHeld (.inl ⟨by rfl,?_⟩) ?_
      rotate_left
      · intro wy hSw; (try dsimp only at hSw); go_simp; (try with_reducible rfl)
      try simp only [Act.put,n1,n2,n3,n4,n5,n6]
      refine tk (i := 15) (v := ?_) rfl hHeld (.inl ⟨by rfl,?_⟩) ?_
      rotate_left
      · intro wy hSw; (try dsimp only at hSw); go_simp; (try with_reducible rfl)
      try simp only [Act.put,n1,n2,n3,n4,n5,n6]
      refine wpAnyH_ready (rs := [13]) (by kernel_rfl) (by simp) ?_
      refine AllReadyH.cons rfl (fun K hK => ?_) AllReadyH.nil
      go_simp
      refine (HE.out _ trivial).mono ?_; rintro x v ⟨rfl,hbv⟩; have H1 : Hid (LW w v (fabO (some ⟨b,off,none⟩) rl rc ea el ec ta tl tc now) (w.heap.size + 1) ⟨cap,first,ra',rl',rc',ca',cl',cc',recs,curs⟩ ta tl ts) := H1.out.under hbv; clear hbv
      go_wp2_with fail
      refine hK.out _ _ ?_ (fun hHeld => ?_)
      · exact ⟨fun o => fb_cell H1.out.box o,fun o => fb_cell H1.out.fb.box o⟩
      clear hK K
      try simp only [Act.put,n1,n2,n3,n4,n5,n6]
      refine wpAnyH_ready (rs := [16]) (by kernel_rfl) (by simp) ?_
      refine AllReadyH.cons rfl (fun K hK => ?_) AllReadyH.nil
      go_simp
      refine (HO.out _ H1.out.txs).mono ?_; rintro x v ⟨rfl,hbv⟩; have H1 : Hid (LW w v (fabO (some ⟨b,off,none⟩) rl rc ea el ec ta tl tc now) (w.heap.size + 1) ⟨cap,first,ra',rl',rc',ca',cl',cc',recs,curs⟩ ta tl ts) := H1.out.under hbv; clear hbv
      go_wp2_with fail
      refine hK.out _ _ ?_ (fun hHeld => ?_)
      · exact ⟨fun o => fb_cell H1.out.box o,fun o => fb_cell H1.out.fb.box o⟩
      clear hK K
      try simp only [Act.put,n1,n2,n3,n4,n5,n6]
      refine tk (i := 17) (v := ?_) rfl hHeld (.inl ⟨by rfl,?_⟩) ?_
      rotate_left
      · intro wy hSw; (try dsimp only at hSw); go_simp; (try with_reducible rfl)
      try simp only [Act.put,n1,n2,n3,n4,n5,n6]
      refine tk (i := 18) (v := ?_) rfl hHeld (.inl ⟨by rfl,?_⟩) ?_
      rotate_left
      · intro wy hSw; (try dsimp only at hSw); go_simp; (try with_reducible rfl)
      try simp only [Act.put,n1,n2,n3,n4,n5,n6]
      refine tk (i := 19) (v := ?_) rfl hHeld (.inl ⟨by rfl,?_⟩) ?_
      rotate_left
      · intro wy hSw; (try dsimp only at hSw); go_simp; (try with_reducible rfl)
      try simp only [Act.put,n1,n2,n3,n4,n5,n6]
      refine wpAnyH_done (by kernel_rfl) ?_ _
      go_wp2_with fail
      go_meet
      exact ⟨rfl,H1⟩
    case rest =>
    obtain ⟨rfl,H2⟩ := hcut
    clear H1 HM hw1 hBd HR HO
    have ct := fun o => fb_cell H2.out.box o
    have cf := fun o => fb_cell H2.out.fb.box o
    go_wp2_with fail
    clear ct cf
    go_loopw [6] (fun i wr => ∃ (j : Nat) (y : Int),j ≤ rl' ∧ i = .int .i64 y ∧ Hid (y = first + (j : Int)) ∧ Hid (recTo ts (k : Int) recs j) ∧ Hid (LW w wr (fabO (some ⟨b,off,none⟩) rl rc ea el ec ta tl tc now) (w.heap.size + 1) ⟨cap,first,ra',rl',rc',ca',cl',cc',recs,curs⟩ ta tl ts)) (fun i _ => (first + (rl' : Int) - intOf i).toNat)
    case atStart => exact ⟨0,first,by omega,rfl,show _ = _ by simp,fun i hi => by omega,H2.out⟩
    case round =>
      obtain ⟨j,y,hj,rfl,hy,hto,hw⟩ := hrel
      clear H2
      have ct := fun o => fb_cell hw.out.box o
      have cf := fun o => fb_cell hw.out.fb.box o
      go_wp2_with fail
      refine (HE.out _ trivial).mono ?_
      rintro x v ⟨rfl,hbv⟩
      have H3 : Hid (LW w v (fabO (some ⟨b,off,none⟩) rl rc ea el ec ta tl tc now) (w.heap.size + 1) ⟨cap,first,ra',rl',rc',ca',cl',cc',recs,curs⟩ ta tl ts) := hw.out.under hbv
      clear hbv ct cf hw
      have ct := fun o => fb_cell H3.out.box o
      have cf := fun o => fb_cell H3.out.fb.box o
      by_cases hlt : j < rl'
      · have hjr : j < recs.length := by omega
        obtain ⟨hn1,hn2,hra⟩ := rec_num HRR.out hjr
        have HF : Hid (recFitB ts (k : Int) recs[j] = numFitB ts (k : Int) (recAt recs j).2.1) := show _ = _ by rw [recFitB,hra]
        have HA : Hid (∀ w,RFit w ra' rl' rc' ca' cl' cc' recs curs → _) := fun w h => spec_lat (cap := cap) (first := first) (ca := ca') (cl := cl') (cc := cc') recs j w h.str (fun s hs => by have := h.sz s hs; unfold maxLen; omega) hlt hrl'
        obtain ⟨n1,hk1⟩ : ∃ x,(recAt recs j).1 = x := ⟨_,rfl⟩
        obtain ⟨n2,hk2⟩ : ∃ x,(recAt recs j).2.1 = x := ⟨_,rfl⟩
        obtain ⟨n3,hk3⟩ : ∃ x,(recAt recs j).2.2.1 = x := ⟨_,rfl⟩
        rw [hk1,hk2,hk3] at HA
        rw [hk2] at HF hn1 hn2
        have HTN : Hid (recFitB ts (k : Int) recs[j] = true → recTo ts (k : Int) recs (j + 1)) := fun h => recTo_succ hto.out hjr h
        have HTF : Hid (recFitB ts (k : Int) recs[j] = false → ringFitB ts (k : Int) ⟨cap,first,ra',rl',rc',ca',cl',cc',recs,curs⟩ = false) := fun h => rfit_no4 (recTo_no hjr h)
        rw [HF.out] at HTN HTF
        clear hk1 hk2 hk3 hra HF hto hjr
        have hji : y < first + (rl' : Int) := by have := hy.out; omega
        have hfd := fun w => field_rec1 n1 n2 n3 w
        have hwj : IntKind.i64.wrap (y + 1) = y + 1 := by have := hy.out; exact twrap_in _ (by omega) (by omega)
        rw [← hy.out] at HA
        have hyn : Hid (y + 1 = first + ((j + 1 : Nat) : Int)) := show _ = _ by have := hy.out; omega
        go_wp2_with fail
        refine (HA.out _ H3.out.fit).mono ?_
        rintro x v2 ⟨rfl,hbv⟩
        have H4 : Hid (LW w v2 (fabO (some ⟨b,off,none⟩) rl rc ea el ec ta tl tc now) (w.heap.size + 1) ⟨cap,first,ra',rl',rc',ca',cl',cc',recs,curs⟩ ta tl ts) := H3.out.under hbv
        clear hbv ct cf H3
        have ct := fun o => fb_cell H4.out.box o
        have cf := fun o => fb_cell H4.out.fb.box o
        by_cases hnt : n2 ≤ (tl : Int)
        · have hnt' : ¬ ((tl : Int) < n2) := by omega
          obtain ⟨M,hM⟩ : ∃ M : Nat,n2 = (M : Int) + 1 := ⟨(n2 - 1).toNat,by omega⟩
          subst hM
          have hMt : M < tl := by omega
          obtain ⟨b4,off4,t,hta,et,_,_,_,_,g4,_,hf⟩ := txsG_at keeps_tfit H4.out.txs (Below.refl _ _) hMt
          subst hta
          have hNF : numFitB ts (k : Int) ((M : Int) + 1) = hasB t.rs (k : Int) := numFit_at (by omega) et
          rw [hNF] at HTN HTF
          have hWM : IntKind.i64.wrap (M : Int) = (M : Int) := twrap_in _ (by omega) (by omega)
          have hMi : (M : Int) < (tl : Int) := by omega
          clear hNF et
          go_wp2_with fail
          refine (spec_has t.ra t.rl t.rc t.rs (k : Int) _ hf.out.r.nums hf.out.rle).mono ?_
          rintro x v3 ⟨rfl,hv3⟩
          rw [hv3]
          clear hv3 v3
          cases hh : hasB t.rs (k : Int) with
          | true =>
            have HN : Hid _ := HTN.out hh
            have HY : Hid (y + 1 ≤ first + (rl' : Int)) := show _ ≤ _ by have := hy.out; omega
            clear hh hnt' hMi hWM hf g4 hn1 hn2 hnt hF hC hEd hG hG' HTN HTF ct cf HA HE hfd hrl' htl hNl hj
            go_wp2
            exact ⟨⟨j + 1,y + 1,by omega,by go_num,hyn.out,HN.out,H4.out⟩,by simp [intOf]; have := HY.out; omega⟩
          | false =>
            have HN : Hid _ := HTF.out hh
            go_wp2
            go_ret
            exact ⟨ret_bool HN.out.symm,H4.out.fb.bel⟩
        · have hnt' : (tl : Int) < n2 := by omega
          have HN : Hid (ringFitB ts (k : Int) ⟨cap,first,ra',rl',rc',ca',cl',cc',recs,curs⟩ = false) := HTF.out (numFit_no (by have := HL.out; omega))
          go_wp2
          go_ret
          exact ⟨ret_bool HN.out.symm,H4.out.fb.bel⟩
      · have hE : Hid (ringFitB ts (k : Int) ⟨cap,first,ra',rl',rc',ca',cl',cc',recs,curs⟩ = true) := rfit_yes HRR.out (show ¬ cap - (recs.length : Int) < _ by rw [HNN.out,hlen]; have := hBB.out; omega) (show first + (recs.length : Int) + _ ≤ 1000000 by rw [HNN.out,hlen]; exact hG) (recTo_all (show recs.length ≤ j by omega) hto.out)
        have hji : decide (y < first + (rl' : Int)) = false := decide_eq_false (by have := hy.out; omega)
        go_wp2
        go_ret
        exact ⟨ret_bool hE.out.symm,H3.out.fb.bel⟩
end Go.Proofs.YtahccighonddaaaGreatDoor
namespace Go.Proofs.YtahccighonddaaaGreatDoor
open Go.RowKit
attribute [local go_sem ↓] Go.wp_at_zero Go.wp_at_succ
set_option linter.unusedSimpArgs false
theorem info_boolF : (Tryz.prog.info? 4).map (fun i => (i.zero,i.size,i.bytes)) = some (some (.bool false),1,1) := by kernel_rfl
structure OW (w wr : World) (o : Obj) (ts : List TD) (j : Nat) : Prop where
  fb : FB w wr o
  own : wr.ownsRow (w.heap.size + 1) 4 1 (.slice (some ⟨w.heap.size + 1,0,none⟩) 5 5) 5 ((openL ts j).map Value.bool)
theorem OW.under {w u v : World} {o : Obj} {ts : List TD} {j : Nat} (h : OW w u o ts j) (hb : Below u.heap.size u v) : OW w v o ts j :=
  ⟨h.fb.under hb,h.own.kept (tbelow_grown hb) (by simp [Value.ownBlock])⟩
theorem OW.set {w u : World} {o : Obj} {ts : List TD} {j : Nat} {t : TD} (h : OW w u o ts j) (hj : ts[j]? = some t) (hs : t.s = 1) {P : Nat} (hP : t.p = (P : Int) + 1) (hP4 : P < 4) : OW w (u.setCell ⟨w.heap.size + 1,P + 1,none⟩ (.bool true)) o ts (j + 1) := by
  refine ⟨⟨(Below.heap_setCell u ⟨w.heap.size + 1,P + 1,none⟩ (.bool true) w.heap.size (by simp)).trans h.fb.box,h.fb.bel.setCell (p := ⟨w.heap.size + 1,P + 1,none⟩) (Nat.le_succ _) _⟩,?_⟩
  have h1 := (h.own.stored (P + 1) (.bool true)).1
  rw [show ((openL ts j).map Value.bool).set (P + 1) (.bool true) = (openL ts (j + 1)).map Value.bool by
    rw [← openL_set hj hs (by omega),show t.p.toNat = P + 1 by omega,List.map_set]] at h1
  exact h1
theorem OW.skip {w u : World} {o : Obj} {ts : List TD} {j : Nat} {t : TD} (h : OW w u o ts j) (hj : ts[j]? = some t) (hs : t.s ≠ 1) : OW w u o ts (j + 1) := ⟨h.fb,by rw [openL_not hj hs]; exact h.own⟩
theorem ow_cell {w u : World} {o : Obj} {ts : List TD} {j : Nat} (h : OW w u o ts j) (P : Nat) (hP : P < 4) : u.cell? ⟨w.heap.size + 1,P + 1,none⟩ = some (.bool (openAt ts j ((P : Int) + 1))) := by
  rw [h.own.cellAt (P + 1) (by omega),List.getElem?_map,openL_at _ _ _ (by omega)]
  simp
structure TW (w v : World) (o : Obj) (ts : List TD) (j X : Nat) (t : TD) (ea : Option Addr) (es : List Int) : Prop where
  ow : OW w v o ts j
  box : v.heap[X]? = some t.obj
  fit : TFit v t
  eps : Nums v ea 4 es
theorem TW.under {w u v : World} {o : Obj} {ts : List TD} {j X : Nat} {t : TD} {ea : Option Addr} {es : List Int} (h : TW w u o ts j X t ea es) (hb : Below u.heap.size u v) : TW w v o ts j X t ea es :=
  ⟨h.ow.under hb,(hb.block _ (fb_lt h.box)).trans h.box,h.fit.below hb,nums_below h.eps hb⟩
theorem TW.draws {w u : World} {o : Obj} {ts : List TD} {j X : Nat} {t : TD} {ea : Option Addr} {es : List Int} (h : TW w u o ts j X t ea es) (n : Nat) : TW w (u.drewN n) o ts j X t ea es := h.under (tbelow_dn (Below.refl _ _) n)
theorem tfit_no1 {es : List Int} {n : Nat} {now : Int} {t : TD} (h : txnRightB t.p t.e t.s t.u t.rs t.ls = false) : txnFitB es n now t = false := by simp [txnFitB,h]
theorem tfit_no2 {es : List Int} {n : Nat} {now V : Int} {t : TD} (hV : epochAt es t.p = V) (h : V < t.e) : txnFitB es n now t = false := by
  have : ¬ t.e ≤ epochAt es t.p := by omega
  simp [txnFitB,this]
theorem tfit_no3 {es : List Int} {n : Nat} {now : Int} {t : TD} (h : ringsIn n t.rs = false) : txnFitB es n now t = false := by simp [txnFitB,h]
theorem tfit_no4 {es : List Int} {n : Nat} {now V : Int} {t : TD} (hV : epochAt es t.p = V) (hs : t.s = 1) (h : ¬ t.e = V) : txnFitB es n now t = false := by
  rw [← hV] at h
  simp [txnFitB,hs,h]
theorem tfit_no5 {es : List Int} {n : Nat} {now : Int} {t : TD} (hs : t.s = 1) (h : ¬ now < t.u) : txnFitB es n now t = false := by
  simp [txnFitB,hs,h]
theorem tfit_yes {es : List Int} {n : Nat} {now V : Int} {t : TD} (hV : epochAt es t.p = V) (h1 : txnRightB t.p t.e t.s t.u t.rs t.ls = true) (h2 : t.e ≤ V) (h3 : ringsIn n t.rs = true) (h4 : t.s = 1 → t.e = V ∧ now < t.u) : txnFitB es n now t = true := by
  rw [← hV] at h2 h4
  simp [txnFitB,h1,h2,h3]
  by_cases hs : t.s = 1
  · exact .inr (h4 hs)
  · exact .inl hs
set_option maxRecDepth 100000 in
set_option maxHeartbeats 8000000 in
theorem spec_ltxns (ra : Option Addr) (rl rc : Nat) (ea : Option Addr) (ec : Nat) (ta : Option Addr) (tl tc : Nat) (now : Int) (es : List Int) (ts : List TD) (w : World) (hT : Txs w ta tl ts) (hE : Nums w ea 4 es) (htl : tl ≤ 1048576) (_hrl : rl ≤ 1048576) :
    Calls Tryz.prog 124 #[fabVal ra rl rc ea 4 ec ta tl tc now] w fun e w' => e = .returned (.bool (txnsFitB es rl now ts)) ∧ Below w.heap.size w w' := by
  obtain ⟨i0,hi0,hz0,hz1,hz2⟩ := info_parts info_boolF
  have HT : Hid (Txs w ta tl ts) := hT
  have HL : Hid (ts.length = tl) := hT.1
  have HE : Hid (Nums w ea 4 es) := hE
  clear hT hE
  have HF : Hid (FB w (w.alloc (fabO ra rl rc ea 4 ec ta tl tc now)) (fabO ra rl rc ea 4 ec ta tl tc now)) := fb_new _ _ _
  go_enter Tryz.func124,Tryz.ntmps124
  go_wp2_with (at_make; refine wpList_make_full _ rfl _ _ 216 rfl (w.heap.size + 1) 4 i0 _ 1 Tryz.underlying216 hi0 hz0 hz1 _ _ _ _ 5 rfl rfl rfl rfl (by rw [hz2]; omega) (by unfold maxLen; omega) (by simp) ?_; intro w1 ho1 hg1)
  have HO : Hid (OW w w1 (fabO ra rl rc ea 4 ec ta tl tc now) ts 0) := ⟨HF.out.under (below_of_grown hg1),by rw [openL_zero]; rw [show (madeCells (Value.cells (.bool false)) (5 * 1)).toList = [Value.bool false,Value.bool false,Value.bool false,Value.bool false,Value.bool false] from by kernel_rfl] at ho1; simp only [World.size_alloc] at ho1; exact ho1⟩
  clear ho1 hg1 HF
  go_loopw [4] (fun i wr => ∃ j : Nat,j ≤ tl ∧ i = .int .i64 j ∧ Hid (txnTo es rl now ts j) ∧ Hid (openTo ts j) ∧ Hid (OW w wr (fabO ra rl rc ea 4 ec ta tl tc now) ts j)) (fun i _ => tl - (intOf i).toNat)
  case atStart => exact ⟨0,by omega,rfl,fun j hj => by omega,fun i j _ hj => by omega,HO.out⟩
  case round =>
    obtain ⟨j,hj,rfl,hto,hop,hw⟩ := hrel
    clear HO
    have hB := fun o => fb_cell hw.out.fb.box o
    by_cases hlt : j < tl
    · obtain ⟨b,off,t,rfl,e1,g0,g1,g2,g3,g4,g5,hf⟩ := txsG_at keeps_tfit HT.out hw.out.fb.bel hlt
      have HJ : Hid (ts[j]? = some t) := e1
      have H0 : Hid (TW w (wr.alloc t.obj) (fabO ra rl rc ea 4 ec (some ⟨b,off,none⟩) tl tc now) ts j wr.heap.size t ea es) := ⟨hw.out.under (fbelow_new _ _),heap_alloc_new _ _,hf.out.below (fbelow_new _ _),nums_below HE.out (below_tr hw.out.fb.bel (fbelow_new _ _))⟩
      clear hf hw e1
      obtain ⟨p,e,s,u,ra',rl',rc',la',ll',lc',rs',ls'⟩ := t
      simp only at g0 g1 g2 g3 g4 g5
      have HR : Hid _ := fun w h => spec_txnRight (p := p) (e := e) (s := s) (u := u) (ra := ra') (rl := rl') (rc := rc') (la := la') (ll := ll') (lc := lc') rs' ls' w h
      have hRB := fun h => txnRight_bnd (p := p) (e := e) (s := s) (u := u) (rs := rs') (ls := ls') h
      obtain ⟨R,hR⟩ : ∃ R,txnRightB p e s u rs' ls' = R := ⟨_,rfl⟩
      rw [hR] at HR hRB
      go_upto_region 6 with fail
      obtain ⟨W,hW⟩ : ∃ W,wr.alloc (txnObj p e s u ra' rl' rc' la' ll' lc') = W := ⟨_,rfl⟩
      obtain ⟨X,hX⟩ : ∃ X,wr.heap.size = X := ⟨_,rfl⟩
      have H0' : Hid (TW w W (fabO ra rl rc ea 4 ec (some ⟨b,off,none⟩) tl tc now) ts j X ⟨p,e,s,u,ra',rl',rc',la',ll',lc',rs',ls'⟩ ea es) := by rw [← hW,← hX]; exact H0.out
      rw [hW,hX]
      clear hW H0 hX hB
      replace H0 := H0'
      clear H0'
      cases R with
      | false =>
        have hE : Hid (txnsFitB es rl now ts = false) := fits_no HJ.out (tfit_no1 hR)
        clear hR hRB hto hop
        refine wp_region_held_drew (S := (fun x => (∀ o,x.cell? ⟨X,o,none⟩ = (#[.int .i64 p,.int .i64 e,.int .i64 s,.int .i64 u,.slice ra' rl' rc',.slice la' ll' lc'] : Array Value)[o]?) ∧ (∀ o,x.cell? ⟨w.heap.size,o,none⟩ = (#[.slice ra rl rc,.slice ea 4 ec,.slice (some ⟨b,off,none⟩) tl tc,.int .i64 now] : Array Value)[o]?))) (by kernel_rfl) (⟨fun o => fb_cell (H0.out.under ((Below.refl _ _).drew)).box o,fun o => fb_cell (H0.out.under ((Below.refl _ _).drew)).ow.fb.box o⟩) (fun hHeld => ?_)
        refine tk (i := 0) (v := ?_) rfl hHeld (.inl ⟨by rfl,?_⟩) ?_
        rotate_left
        · intro wy hSw; (try dsimp only at hSw); go_simp; (try with_reducible rfl)
        try simp only [Act.put,n1,n2,n3,n4,n5,n6]
        refine wpAnyH_ready (rs := [1]) (by kernel_rfl) (by simp) ?_
        refine AllReadyH.cons rfl (fun K hK => ?_) AllReadyH.nil
        go_simp
        refine (HR.out _ (H0.out.fit.tin.below ((Below.refl _ _).drew))).mono ?_; rintro x v ⟨rfl,hbv⟩; have H1 : Hid (TW w v (fabO ra rl rc ea 4 ec (some ⟨b,off,none⟩) tl tc now) ts j X ⟨p,e,s,u,ra',rl',rc',la',ll',lc',rs',ls'⟩ ea es) := H0.out.under (below_tr ((Below.refl _ _).drew) hbv); clear hbv
        go_wp2_with fail
        refine hK.out _ _ ?_ (fun hHeld => ?_)
        · exact ⟨fun o => fb_cell H1.out.box o,fun o => fb_cell H1.out.ow.fb.box o⟩
        clear hK K
        try simp only [Act.put,n1,n2,n3,n4,n5,n6]
        refine tk (i := 2) (v := ?_) rfl hHeld (.inl ⟨by rfl,?_⟩) ?_
        rotate_left
        · intro wy hSw; (try dsimp only at hSw); go_simp; (try with_reducible rfl)
        try simp only [Act.put,n1,n2,n3,n4,n5,n6]
        refine tk (i := 3) (v := ?_) rfl hHeld (.inl ⟨by rfl,?_⟩) ?_
        rotate_left
        · intro wy hSw; (try dsimp only at hSw); go_simp; (try with_reducible rfl)
        try simp only [Act.put,n1,n2,n3,n4,n5,n6]
        refine tk (i := 4) (v := undef) rfl hHeld (.inr ⟨by rfl,rfl⟩) ?_
        try simp only [Act.put,n1,n2,n3,n4,n5,n6]
        refine tk (i := 5) (v := undef) rfl hHeld (.inr ⟨by rfl,rfl⟩) ?_
        try simp only [Act.put,n1,n2,n3,n4,n5,n6]
        refine tk (i := 6) (v := undef) rfl hHeld (.inr ⟨by rfl,rfl⟩) ?_
        try simp only [Act.put,n1,n2,n3,n4,n5,n6]
        refine tk (i := 7) (v := undef) rfl hHeld (.inr ⟨by rfl,rfl⟩) ?_
        try simp only [Act.put,n1,n2,n3,n4,n5,n6]
        refine tk (i := 8) (v := undef) rfl hHeld (.inr ⟨by rfl,rfl⟩) ?_
        try simp only [Act.put,n1,n2,n3,n4,n5,n6]
        refine tk (i := 9) (v := undef) rfl hHeld (.inr ⟨by rfl,rfl⟩) ?_
        try simp only [Act.put,n1,n2,n3,n4,n5,n6]
        refine tk (i := 10) (v := undef) rfl hHeld (.inr ⟨by rfl,rfl⟩) ?_
        try simp only [Act.put,n1,n2,n3,n4,n5,n6]
        refine tk (i := 11) (v := undef) rfl hHeld (.inr ⟨by rfl,rfl⟩) ?_
        try simp only [Act.put,n1,n2,n3,n4,n5,n6]
        refine tk (i := 12) (v := undef) rfl hHeld (.inr ⟨by rfl,rfl⟩) ?_
        try simp only [Act.put,n1,n2,n3,n4,n5,n6]
        refine tk (i := 13) (v := undef) rfl hHeld (.inr ⟨by rfl,rfl⟩) ?_
        try simp only [Act.put,n1,n2,n3,n4,n5,n6]
        refine tk (i := 14) (v := ?_) rfl hHeld (.inl ⟨by rfl,?_⟩) ?_
        rotate_left
        · intro wy hSw; (try dsimp only at hSw); go_simp; (try with_reducible rfl)
        try simp only [Act.put,n1,n2,n3,n4,n5,n6]
        refine wpAnyH_done (by kernel_rfl) ?_ _
        go_wp2
        go_ret
        exact ⟨ret_bool hE.out.symm,H1.out.ow.fb.bel⟩
      | true =>
        have hbn := hRB rfl
        clear hRB
        obtain ⟨P,hP⟩ : ∃ P : Nat,p = (P : Int) + 1 := ⟨(p - 1).toNat,by omega⟩
        subst hP
        have hP4 : P < 4 := by omega
        have HRB : Hid (ringsB rs' = true) := hbn.2.2.2.2.1
        have hR1 : Hid (txnRightB ((P : Int) + 1) e s u rs' ls' = true) := hR
        clear hbn hR
        obtain ⟨b2,off2,V,rfl,hV,cV⟩ := nums_at H0.out.eps (Below.refl _ _) (k := P) hP4
        have hEV : Hid (epochAt es ((P : Int) + 1) = V) := epoch_at (by omega) hV
        clear hV
        have hW1 : IntKind.i64.wrap (P : Int) = (P : Int) := twrap_in _ (by omega) (by omega)
        have hPI : (P : Int) < 4 := by omega
        by_cases hVe : V < e
        · have hE : Hid (txnsFitB es rl now ts = false) := fits_no HJ.out (tfit_no2 hEV.out hVe)
          clear hto hop
          refine wp_region_held_drew (S := (fun x => (∀ o,x.cell? ⟨X,o,none⟩ = (#[.int .i64 ((P : Int) + 1),.int .i64 e,.int .i64 s,.int .i64 u,.slice ra' rl' rc',.slice la' ll' lc'] : Array Value)[o]?) ∧ (∀ o,x.cell? ⟨w.heap.size,o,none⟩ = (#[.slice ra rl rc,.slice (some ⟨b2,off2,none⟩) 4 ec,.slice (some ⟨b,off,none⟩) tl tc,.int .i64 now] : Array Value)[o]?) ∧ x.cell? ⟨b2,off2 + P,none⟩ = some (.int .i64 V))) (by kernel_rfl) (⟨fun o => fb_cell (H0.out.under ((Below.refl _ _).drew)).box o,fun o => fb_cell (H0.out.under ((Below.refl _ _).drew)).ow.fb.box o,cell_below cV ((Below.refl _ _).drew)⟩) (fun hHeld => ?_)
          refine tk (i := 0) (v := ?_) rfl hHeld (.inl ⟨by rfl,?_⟩) ?_
          rotate_left
          · intro wy hSw; (try dsimp only at hSw); go_simp; (try with_reducible rfl)
          try simp only [Act.put,n1,n2,n3,n4,n5,n6]
          refine wpAnyH_ready (rs := [1]) (by kernel_rfl) (by simp) ?_
          refine AllReadyH.cons rfl (fun K hK => ?_) AllReadyH.nil
          go_simp
          refine (HR.out _ (H0.out.fit.tin.below ((Below.refl _ _).drew))).mono ?_; rintro x v ⟨rfl,hbv⟩; have H1 : Hid (TW w v (fabO ra rl rc (some ⟨b2,off2,none⟩) 4 ec (some ⟨b,off,none⟩) tl tc now) ts j X ⟨(P : Int) + 1,e,s,u,ra',rl',rc',la',ll',lc',rs',ls'⟩ (some ⟨b2,off2,none⟩) es) := H0.out.under (below_tr ((Below.refl _ _).drew) hbv); have cW := cell_below cV (below_tr ((Below.refl _ _).drew) hbv); clear hbv
          go_wp2_with fail
          refine hK.out _ _ ?_ (fun hHeld => ?_)
          · exact ⟨fun o => fb_cell H1.out.box o,fun o => fb_cell H1.out.ow.fb.box o,cW⟩
          clear hK K
          try simp only [Act.put,n1,n2,n3,n4,n5,n6]
          refine tk (i := 2) (v := ?_) rfl hHeld (.inl ⟨by rfl,?_⟩) ?_
          rotate_left
          · intro wy hSw; (try dsimp only at hSw); go_simp; (try with_reducible rfl)
          try simp only [Act.put,n1,n2,n3,n4,n5,n6]
          refine tk (i := 3) (v := ?_) rfl hHeld (.inl ⟨by rfl,?_⟩) ?_
          rotate_left
          · intro wy hSw; (try dsimp only at hSw); go_simp; (try with_reducible rfl)
          try simp only [Act.put,n1,n2,n3,n4,n5,n6]
          refine tk (i := 4) (v := ?_) rfl hHeld (.inl ⟨by rfl,?_⟩) ?_
          rotate_left
          · intro wy hSw; (try dsimp only at hSw); go_simp; (try with_reducible rfl)
          try simp only [Act.put,n1,n2,n3,n4,n5,n6]
          refine tk (i := 5) (v := ?_) rfl hHeld (.inl ⟨by rfl,?_⟩) ?_
          rotate_left
          · intro wy hSw; (try dsimp only at hSw); go_simp; (try with_reducible rfl)
          try simp only [Act.put,n1,n2,n3,n4,n5,n6]
          refine tk (i := 6) (v := ?_) rfl hHeld (.inl ⟨by rfl,?_⟩) ?_
          rotate_left
          · intro wy hSw; (try dsimp only at hSw); go_simp; (try with_reducible rfl)
          try simp only [Act.put,n1,n2,n3,n4,n5,n6]
          refine tk (i := 7) (v := ?_) rfl hHeld (.inl ⟨by rfl,?_⟩) ?_
          rotate_left
          · intro wy hSw; (try dsimp only at hSw); go_simp; (try with_reducible rfl)
          try simp only [Act.put,n1,n2,n3,n4,n5,n6]
          refine tk (i := 8) (v := ?_) rfl hHeld (.inl ⟨by rfl,?_⟩) ?_
          rotate_left
          · intro wy hSw; (try dsimp only at hSw); go_simp; (try with_reducible rfl)
          try simp only [Act.put,n1,n2,n3,n4,n5,n6]
          refine tk (i := 9) (v := ?_) rfl hHeld (.inl ⟨by rfl,?_⟩) ?_
          rotate_left
          · intro wy hSw; (try dsimp only at hSw); go_simp; (try with_reducible rfl)
          try simp only [Act.put,n1,n2,n3,n4,n5,n6]
          refine tk (i := 10) (v := ?_) rfl hHeld (.inl ⟨by rfl,?_⟩) ?_
          rotate_left
          · intro wy hSw; (try dsimp only at hSw); go_simp; (try with_reducible rfl)
          try simp only [Act.put,n1,n2,n3,n4,n5,n6]
          refine tk (i := 11) (v := ?_) rfl hHeld (.inl ⟨by rfl,?_⟩) ?_
          rotate_left
          · intro wy hSw; (try dsimp only at hSw); go_simp; (try with_reducible rfl)
          try simp only [Act.put,n1,n2,n3,n4,n5,n6]
          refine tk (i := 12) (v := ?_) rfl hHeld (.inl ⟨by rfl,?_⟩) ?_
          rotate_left
          · intro wy hSw; (try dsimp only at hSw); go_simp; (try with_reducible rfl)
          try simp only [Act.put,n1,n2,n3,n4,n5,n6]
          refine tk (i := 13) (v := ?_) rfl hHeld (.inl ⟨by rfl,?_⟩) ?_
          rotate_left
          · intro wy hSw; (try dsimp only at hSw); go_simp; (try with_reducible rfl)
          try simp only [Act.put,n1,n2,n3,n4,n5,n6]
          refine tk (i := 14) (v := ?_) rfl hHeld (.inl ⟨by rfl,?_⟩) ?_
          rotate_left
          · intro wy hSw; (try dsimp only at hSw); go_simp; (try with_reducible rfl)
          try simp only [Act.put,n1,n2,n3,n4,n5,n6]
          refine wpAnyH_done (by kernel_rfl) ?_ _
          go_wp2
          go_ret
          exact ⟨ret_bool hE.out.symm,H1.out.ow.fb.bel⟩
        · refine wp_region_held_drew (S := (fun x => (∀ o,x.cell? ⟨X,o,none⟩ = (#[.int .i64 ((P : Int) + 1),.int .i64 e,.int .i64 s,.int .i64 u,.slice ra' rl' rc',.slice la' ll' lc'] : Array Value)[o]?) ∧ (∀ o,x.cell? ⟨w.heap.size,o,none⟩ = (#[.slice ra rl rc,.slice (some ⟨b2,off2,none⟩) 4 ec,.slice (some ⟨b,off,none⟩) tl tc,.int .i64 now] : Array Value)[o]?) ∧ x.cell? ⟨b2,off2 + P,none⟩ = some (.int .i64 V))) (by kernel_rfl) (⟨fun o => fb_cell (H0.out.under ((Below.refl _ _).drew)).box o,fun o => fb_cell (H0.out.under ((Below.refl _ _).drew)).ow.fb.box o,cell_below cV ((Below.refl _ _).drew)⟩) (fun hHeld => ?_)
          refine tk (i := 0) (v := ?_) rfl hHeld (.inl ⟨by rfl,?_⟩) ?_
          rotate_left
          · intro wy hSw; (try dsimp only at hSw); go_simp; (try with_reducible rfl)
          try simp only [Act.put,n1,n2,n3,n4,n5,n6]
          refine wpAnyH_ready (rs := [1]) (by kernel_rfl) (by simp) ?_
          refine AllReadyH.cons rfl (fun K hK => ?_) AllReadyH.nil
          go_simp
          refine (HR.out _ (H0.out.fit.tin.below ((Below.refl _ _).drew))).mono ?_; rintro x v ⟨rfl,hbv⟩; have H1 : Hid (TW w v (fabO ra rl rc (some ⟨b2,off2,none⟩) 4 ec (some ⟨b,off,none⟩) tl tc now) ts j X ⟨(P : Int) + 1,e,s,u,ra',rl',rc',la',ll',lc',rs',ls'⟩ (some ⟨b2,off2,none⟩) es) := H0.out.under (below_tr ((Below.refl _ _).drew) hbv); have cW := cell_below cV (below_tr ((Below.refl _ _).drew) hbv); clear hbv
          go_wp2_with fail
          refine hK.out _ _ ?_ (fun hHeld => ?_)
          · exact ⟨fun o => fb_cell H1.out.box o,fun o => fb_cell H1.out.ow.fb.box o,cW⟩
          clear hK K
          try simp only [Act.put,n1,n2,n3,n4,n5,n6]
          refine tk (i := 2) (v := ?_) rfl hHeld (.inl ⟨by rfl,?_⟩) ?_
          rotate_left
          · intro wy hSw; (try dsimp only at hSw); go_simp; (try with_reducible rfl)
          try simp only [Act.put,n1,n2,n3,n4,n5,n6]
          refine tk (i := 3) (v := ?_) rfl hHeld (.inl ⟨by rfl,?_⟩) ?_
          rotate_left
          · intro wy hSw; (try dsimp only at hSw); go_simp; (try with_reducible rfl)
          try simp only [Act.put,n1,n2,n3,n4,n5,n6]
          refine tk (i := 4) (v := ?_) rfl hHeld (.inl ⟨by rfl,?_⟩) ?_
          rotate_left
          · intro wy hSw; (try dsimp only at hSw); go_simp; (try with_reducible rfl)
          try simp only [Act.put,n1,n2,n3,n4,n5,n6]
          refine tk (i := 5) (v := ?_) rfl hHeld (.inl ⟨by rfl,?_⟩) ?_
          rotate_left
          · intro wy hSw; (try dsimp only at hSw); go_simp; (try with_reducible rfl)
          try simp only [Act.put,n1,n2,n3,n4,n5,n6]
          refine tk (i := 6) (v := ?_) rfl hHeld (.inl ⟨by rfl,?_⟩) ?_
          rotate_left
          · intro wy hSw; (try dsimp only at hSw); go_simp; (try with_reducible rfl)
          try simp only [Act.put,n1,n2,n3,n4,n5,n6]
          refine tk (i := 7) (v := ?_) rfl hHeld (.inl ⟨by rfl,?_⟩) ?_
          rotate_left
          · intro wy hSw; (try dsimp only at hSw); go_simp; (try with_reducible rfl)
          try simp only [Act.put,n1,n2,n3,n4,n5,n6]
          refine tk (i := 8) (v := ?_) rfl hHeld (.inl ⟨by rfl,?_⟩) ?_
          rotate_left
          · intro wy hSw; (try dsimp only at hSw); go_simp; (try with_reducible rfl)
          try simp only [Act.put,n1,n2,n3,n4,n5,n6]
          refine tk (i := 9) (v := ?_) rfl hHeld (.inl ⟨by rfl,?_⟩) ?_
          rotate_left
          · intro wy hSw; (try dsimp only at hSw); go_simp; (try with_reducible rfl)
          try simp only [Act.put,n1,n2,n3,n4,n5,n6]
          refine tk (i := 10) (v := ?_) rfl hHeld (.inl ⟨by rfl,?_⟩) ?_
          rotate_left
          · intro wy hSw; (try dsimp only at hSw); go_simp; (try with_reducible rfl)
          try simp only [Act.put,n1,n2,n3,n4,n5,n6]
          refine tk (i := 11) (v := ?_) rfl hHeld (.inl ⟨by rfl,?_⟩) ?_
          rotate_left
          · intro wy hSw; (try dsimp only at hSw); go_simp; (try with_reducible rfl)
          try simp only [Act.put,n1,n2,n3,n4,n5,n6]
          refine tk (i := 12) (v := ?_) rfl hHeld (.inl ⟨by rfl,?_⟩) ?_
          rotate_left
          · intro wy hSw; (try dsimp only at hSw); go_simp; (try with_reducible rfl)
          try simp only [Act.put,n1,n2,n3,n4,n5,n6]
          refine tk (i := 13) (v := ?_) rfl hHeld (.inl ⟨by rfl,?_⟩) ?_
          rotate_left
          · intro wy hSw; (try dsimp only at hSw); go_simp; (try with_reducible rfl)
          try simp only [Act.put,n1,n2,n3,n4,n5,n6]
          refine tk (i := 14) (v := ?_) rfl hHeld (.inl ⟨by rfl,?_⟩) ?_
          rotate_left
          · intro wy hSw; (try dsimp only at hSw); go_simp; (try with_reducible rfl)
          try simp only [Act.put,n1,n2,n3,n4,n5,n6]
          refine wpAnyH_done (by kernel_rfl) ?_ _
          clear H0 cV
          have ct := fun o => fb_cell H1.out.box o
          have cf := fun o => fb_cell H1.out.ow.fb.box o
          go_upto_region 8 with fail
          go_cut [51] from 7 to 82 (fun s51 wc => s51 = .bool (!(ringsIn rl rs')) ∧ Hid (TW w wc (fabO ra rl rc (some ⟨b2,off2,none⟩) 4 ec (some ⟨b,off,none⟩) tl tc now) ts j X ⟨(P : Int) + 1,e,s,u,ra',rl',rc',la',ll',lc',rs',ls'⟩ (some ⟨b2,off2,none⟩) es))
          case first =>
            have hlen : rs'.length = rl' := H1.out.fit.r.nums.1
            cases rl' with
            | zero =>
              have hn : rs' = [] := List.length_eq_zero_iff.1 hlen
              subst hn
              go_quiet (first | (fail))
              go_wp2_with fail
              go_meet
              exact ⟨rfl,H1.out.draws _⟩
            | succ M =>
              obtain ⟨b3,off3,V3,rfl,hV3,cV3⟩ := nums_at H1.out.fit.r.nums (Below.refl _ _) (k := M) (show M < M + 1 by omega)
              have hW3 : IntKind.i64.wrap (M : Int) = (M : Int) := by have : M + 1 ≤ 1048576 := H1.out.fit.rle; exact twrap_in _ (by omega) (by omega)
              have hML : (M : Int) < ((M + 1 : Nat) : Int) := by omega
              have hI : ringsIn rl rs' = decide (V3 < (rl : Int)) := ringsIn_last (by omega) hV3 HRB.out
              by_cases h3 : V3 < (rl : Int)
              · go_quiet (first | (fail))
                go_wp2_with fail
                go_meet
                exact ⟨by rw [hI]; simp [h3],H1.out.draws _⟩
              · go_quiet (first | (fail))
                go_wp2_with fail
                go_meet
                exact ⟨by rw [hI]; simp [h3],H1.out.draws _⟩
          case rest =>
          obtain ⟨rfl,H2⟩ := hcut
          clear H1 ct cf cW
          have ct := fun o => fb_cell H2.out.box o
          have cf := fun o => fb_cell H2.out.ow.fb.box o
          cases hI : ringsIn rl rs' with
          | false =>
            have hE : Hid (txnsFitB es rl now ts = false) := fits_no HJ.out (tfit_no3 hI)
            clear hto hop hI
            go_wp2
            go_ret
            exact ⟨ret_bool hE.out.symm,H2.out.ow.fb.bel⟩
          | true =>
            have HI : Hid (ringsIn rl rs' = true) := hI
            clear hI
            by_cases hs : s = 1
            · have hsn : (s != 1) = false := by simp [hs]
              have cO := ow_cell H2.out.ow P hP4
              obtain ⟨b3,off3,V3,he3,hV3,cE⟩ := nums_at H2.out.eps (Below.refl _ _) (k := P) hP4
              have hV' : V3 = V := (epoch_at (by omega) hV3).symm.trans hEV.out
              simp only [Option.some.injEq,Addr.mk.injEq] at he3
              obtain ⟨rfl,rfl,_⟩ := he3
              subst hV'
              clear hV3
              have hP5 : (P : Int) + 1 < 5 := by omega
              cases hO : openAt ts j ((P : Int) + 1) with
              | true =>
                have hE : Hid (txnsFitB es rl now ts = false) := by obtain ⟨i,t,hi,ht,h1,h2⟩ := open_some hO; exact fits_two ht HJ.out hi h1 hs h2
                rw [hO] at cO
                clear hto hop hO
                go_upto_region 11 with fail
                go_quiet (first | (fail))
                go_wp2
                go_ret
                exact ⟨ret_bool hE.out.symm,(H2.out.draws _).ow.fb.bel⟩
              | false =>
                rw [hO] at cO
                by_cases hev : e = V3
                · have hev' : (e != V3) = false := by simp [hev]
                  by_cases hu : now < u
                  · have hT : Hid (txnTo es rl now ts (j + 1)) := txnTo_succ hto.out HJ.out (tfit_yes hEV.out hR1.out (Int.le_of_eq hev) HI.out (fun _ => ⟨hev,hu⟩))
                    have hP' : Hid (openTo ts (j + 1)) := openTo_succ hop.out HJ.out (fun _ => hO)
                    have hu' : ¬ (u ≤ now) := by omega
                    have hfz := H2.out.ow.own.frozenAt (P + 1)
                    have HS : Hid (∀ n,OW w ((wc.drewN n).setCell ⟨w.heap.size + 1,P + 1,none⟩ (.bool true)) (fabO ra rl rc (some ⟨b2,off2,none⟩) 4 ec (some ⟨b,off,none⟩) tl tc now) ts (j + 1)) := fun n => (H2.out.draws n).ow.set HJ.out hs rfl hP4
                    clear hto hop hO
                    go_upto_region 11 with fail
                    go_quiet (first | (fail))
                    go_wp2
                    exact ⟨⟨j + 1,by omega,by go_num,hT.out,hP'.out,HS.out _⟩,by simp [intOf]; omega⟩
                  · have hE : Hid (txnsFitB es rl now ts = false) := fits_no HJ.out (tfit_no5 hs hu)
                    have hu' : u ≤ now := by omega
                    clear hto hop hO
                    go_upto_region 11 with fail
                    go_quiet (first | (fail))
                    go_wp2
                    go_ret
                    exact ⟨ret_bool hE.out.symm,(H2.out.draws _).ow.fb.bel⟩
                · have hev' : (e != V3) = true := by simp [hev]
                  have hE : Hid (txnsFitB es rl now ts = false) := fits_no HJ.out (tfit_no4 hEV.out hs hev)
                  clear hto hop hO
                  go_upto_region 11 with fail
                  go_quiet (first | (fail))
                  go_wp2
                  go_ret
                  exact ⟨ret_bool hE.out.symm,(H2.out.draws _).ow.fb.bel⟩
            · have hsn : (s != 1) = true := by simp [hs]
              have hT : Hid (txnTo es rl now ts (j + 1)) := txnTo_succ hto.out HJ.out (tfit_yes hEV.out hR1.out (by omega) HI.out (fun h => absurd h hs))
              have hP' : Hid (openTo ts (j + 1)) := openTo_succ hop.out HJ.out (fun h => absurd h hs)
              have HS : Hid (OW w wc (fabO ra rl rc (some ⟨b2,off2,none⟩) 4 ec (some ⟨b,off,none⟩) tl tc now) ts (j + 1)) := H2.out.ow.skip HJ.out hs
              clear hto hop
              go_wp2
              exact ⟨⟨j + 1,by omega,by go_num,hT.out,hP'.out,HS.out⟩,by simp [intOf]; omega⟩
    · have hE : Hid (txnsFitB es rl now ts = true) := fits_yes (by rw [HL.out]; omega) hto.out hop.out
      clear hto hop
      go_wp2
      go_ret
      exact ⟨ret_bool hE.out.symm,hw.out.fb.bel⟩
end Go.Proofs.YtahccighonddaaaGreatDoor
namespace Go.Proofs.YtahccighonddaaaGreatDoor
open Go.RowKit
attribute [local go_sem ↓] Go.wp_at_zero Go.wp_at_succ
theorem fab_no1 {rs : List RD} {es : List Int} {ts : List TD} {now : Int} (h : ¬ (1 ≤ rs.length ∧ rs.length ≤ 4 ∧ es.length = 4 ∧ ts.length ≤ 12)) : fabRightB rs es ts now = false := by
  simp only [fabRightB,fabSizesB,decide_eq_false h,Bool.false_and]
theorem fab_no2 {rs : List RD} {es : List Int} {ts : List TD} {now : Int} (h : timeB now = false) : fabRightB rs es ts now = false := by
  simp only [fabRightB,h,Bool.and_false,Bool.false_and]
theorem fab_no3 {rs : List RD} {es : List Int} {ts : List TD} {now : Int} (h : es.all timeB = false) : fabRightB rs es ts now = false := by
  simp only [fabRightB,h,Bool.and_false,Bool.false_and]
theorem fab_no4 {rs : List RD} {es : List Int} {ts : List TD} {now : Int} (h : txnsFitB es rs.length now ts = false) : fabRightB rs es ts now = false := by
  simp only [fabRightB,h,Bool.and_false,Bool.false_and]
theorem fab_no5 {rs : List RD} {es : List Int} {ts : List TD} {now : Int} (h : ringsFitB ts rs = false) : fabRightB rs es ts now = false := by
  simp only [fabRightB,h,Bool.and_false]
theorem fab_yes {rs : List RD} {es : List Int} {ts : List TD} {now : Int} (h1 : 1 ≤ rs.length ∧ rs.length ≤ 4 ∧ es.length = 4 ∧ ts.length ≤ 12) (h2 : timeB now = true) (h3 : es.all timeB = true) (h4 : txnsFitB es rs.length now ts = true) (h5 : ringsFitB ts rs = true) : fabRightB rs es ts now = true := by
  simp only [fabRightB,fabSizesB,decide_eq_true h1,h2,h3,h4,h5,Bool.and_true]
theorem time_no {es : List Int} {k : Nat} (hk : k < es.length) (h : timeB es[k] = false) : es.all timeB = false := by
  rw [List.all_eq_false]
  exact ⟨es[k],List.getElem_mem hk,by simp [h]⟩
theorem time_yes {es : List Int} {k : Nat} (hk : es.length ≤ k) (h : timeTo es k) : es.all timeB = true := by
  rw [List.all_eq_true]
  intro x hx
  obtain ⟨j,hj,rfl⟩ := List.getElem_of_mem hx
  exact h j (by omega) hj
theorem timeTo_succ {es : List Int} {k : Nat} (hr : timeTo es k) (hk : k < es.length) (h : timeB es[k] = true) : timeTo es (k + 1) := fun i hi h1 => by
  by_cases hik : i = k
  · subst hik; exact h
  · exact hr i (by omega) h1
structure FX (w v : World) (o : Obj) (ra : Option Addr) (rl : Nat) (ea : Option Addr) (el : Nat) (ta : Option Addr) (tl : Nat) (rs : List RD) (es : List Int) (ts : List TD) : Prop where
  fb : FB w v o
  fin : FIn v ra rl ea el ta tl rs es ts
theorem FX.under {w u v : World} {o : Obj} {ra : Option Addr} {rl : Nat} {ea : Option Addr} {el : Nat} {ta : Option Addr} {tl : Nat} {rs : List RD} {es : List Int} {ts : List TD} (h : FX w u o ra rl ea el ta tl rs es ts) (hb : Below u.heap.size u v) : FX w v o ra rl ea el ta tl rs es ts := ⟨h.fb.under hb,h.fin.below hb⟩
set_option maxRecDepth 100000 in
set_option maxHeartbeats 8000000 in
theorem spec_fabricRight (ra : Option Addr) (rl rc : Nat) (ea : Option Addr) (el ec : Nat) (ta : Option Addr) (tl tc : Nat) (now : Int) (rs : List RD) (es : List Int) (ts : List TD) (w : World) (hi : FIn w ra rl ea el ta tl rs es ts) :
    Calls Tryz.prog 78 #[fabVal ra rl rc ea el ec ta tl tc now] w fun e w' => e = .returned (.bool (fabRightB rs es ts now)) ∧ Below w.heap.size w w' := by
  have HR : Hid (rs.length = rl) := hi.rs.1
  have HE : Hid (es.length = el) := hi.es.1
  have HT : Hid (ts.length = tl) := hi.ts.1
  have hrl := hi.rle
  have hel := hi.ele
  have htl := hi.tle
  have H0 : Hid (FX w (w.alloc (fabO ra rl rc ea el ec ta tl tc now)) (fabO ra rl rc ea el ec ta tl tc now) ra rl ea el ta tl rs es ts) := ⟨fb_new _ _ _,hi.below (fbelow_new _ _)⟩
  clear hi
  by_cases h1 : 1 ≤ rl
  case neg =>
    have hE : Hid (fabRightB rs es ts now = false) := fab_no1 (by have := HR.out; omega)
    have h1' : (rl : Int) < 1 := by omega
    go_enter Tryz.func78,Tryz.ntmps78
    go_wp2
    go_ret
    exact ⟨ret_bool hE.out.symm,H0.out.fb.bel⟩
  by_cases h2 : rl ≤ 4
  case neg =>
    have hE : Hid (fabRightB rs es ts now = false) := fab_no1 (by have := HR.out; omega)
    have h1' : decide ((rl : Int) < 1) = false := decide_eq_false (by omega)
    have h2' : decide ((4 : Int) < (rl : Int)) = true := decide_eq_true (by omega)
    go_enter Tryz.func78,Tryz.ntmps78
    go_wp2
    go_ret
    exact ⟨ret_bool hE.out.symm,H0.out.fb.bel⟩
  have h1' : decide ((rl : Int) < 1) = false := decide_eq_false (by omega)
  have h2' : decide ((4 : Int) < (rl : Int)) = false := decide_eq_false (by omega)
  by_cases h3 : el = 4
  case neg =>
    have hE : Hid (fabRightB rs es ts now = false) := fab_no1 (by have := HE.out; omega)
    have h3' : ((el : Int) != 4) = true := by simp; omega
    go_enter Tryz.func78,Tryz.ntmps78
    go_wp2
    go_ret
    exact ⟨ret_bool hE.out.symm,H0.out.fb.bel⟩
  subst h3
  by_cases h4 : tl ≤ 12
  case neg =>
    have hE : Hid (fabRightB rs es ts now = false) := fab_no1 (by have := HT.out; omega)
    have h4' : decide ((12 : Int) < (tl : Int)) = true := decide_eq_true (by omega)
    go_enter Tryz.func78,Tryz.ntmps78
    go_wp2
    go_ret
    exact ⟨ret_bool hE.out.symm,H0.out.fb.bel⟩
  have h4' : decide ((12 : Int) < (tl : Int)) = false := decide_eq_false (by omega)
  have HZ : Hid (1 ≤ rs.length ∧ rs.length ≤ 4 ∧ es.length = 4 ∧ ts.length ≤ 12) := by have a := HR.out; have b := HE.out; have c := HT.out; exact ⟨by omega,by omega,b,by omega⟩
  go_enter Tryz.func78,Tryz.ntmps78
  go_wp2_with fail
  refine (spec_time now _).mono ?_
  rintro e w1 ⟨rfl,hw1⟩
  rw [hw1]
  clear hw1 w1
  by_cases h5 : 0 ≤ now ∧ now ≤ 1000000
  case neg =>
    rw [decide_eq_false h5]
    have hE : Hid (fabRightB rs es ts now = false) := fab_no2 (decide_eq_false h5)
    clear h5
    go_wp2
    go_ret
    exact ⟨ret_bool hE.out.symm,H0.out.fb.bel⟩
  rw [decide_eq_true h5]
  have HN : Hid (timeB now = true) := decide_eq_true h5
  clear h5
  go_wp2_with fail
  go_loopw [3] (fun i wr => ∃ k : Nat,k ≤ 4 ∧ i = .int .i64 k ∧ Hid (timeTo es k) ∧ Hid (FX w wr (fabO ra rl rc ea 4 ec ta tl tc now) ra rl ea 4 ta tl rs es ts)) (fun i _ => 4 - (intOf i).toNat)
  case atStart => exact ⟨0,by omega,rfl,fun j hj => by omega,H0.out⟩
  case round =>
    obtain ⟨k,hk,rfl,hto,hw⟩ := hrel
    clear H0
    have cf := fun o => fb_cell hw.out.fb.box o
    by_cases hlt : k < 4
    · obtain ⟨b,off,hea,hkl,g0⟩ := nums_get hw.out.fin.es (Below.refl _ _) (k := k) hlt
      have hN : timeB es[k] = false → Hid (fabRightB rs es ts now = false) := fun h => fab_no3 (time_no hkl h)
      have hY : timeB es[k] = true → Hid (timeTo es (k + 1)) := fun h => timeTo_succ hto.out hkl h
      obtain ⟨V,hV⟩ : ∃ V,es[k] = V := ⟨_,rfl⟩
      rw [hV] at g0 hN hY
      clear hV hkl hto
      subst hea
      go_wp2_with fail
      refine (spec_time V _).mono ?_
      rintro e w1 ⟨rfl,hw1⟩
      rw [hw1]
      clear hw1 w1
      by_cases h5 : 0 ≤ V ∧ V ≤ 1000000
      · rw [decide_eq_true h5]
        have hE := hY (decide_eq_true h5)
        clear h5 hY hN g0
        go_wp2
        exact ⟨⟨k + 1,by omega,by go_num,hE.out,hw.out⟩,by simp [intOf]; omega⟩
      · rw [decide_eq_false h5]
        have hE := hN (decide_eq_false h5)
        clear h5 hY hN g0
        go_wp2
        go_ret
        exact ⟨ret_bool hE.out.symm,hw.out.fb.bel⟩
    · have HTI : Hid (es.all timeB = true) := time_yes (by rw [HE.out]; omega) hto.out
      clear hto
      go_wp2_with fail
      refine (spec_ltxns ra rl rc ea ec ta tl tc now es ts _ hw.out.fin.ts hw.out.fin.es htl hrl).mono ?_
      rintro e v ⟨rfl,hbv⟩
      have H1 : Hid (FX w v (fabO ra rl rc ea 4 ec ta tl tc now) ra rl ea 4 ta tl rs es ts) := hw.out.under hbv
      clear hbv hw cf
      cases hF : txnsFitB es rl now ts with
      | false =>
        have hE : Hid (fabRightB rs es ts now = false) := fab_no4 (by rw [HR.out]; exact hF)
        go_wp2
        go_ret
        exact ⟨ret_bool hE.out.symm,H1.out.fb.bel⟩
      | true =>
        have HF : Hid (txnsFitB es rs.length now ts = true) := by rw [HR.out]; exact hF
        clear hF
        have cf := fun o => fb_cell H1.out.fb.box o
        go_wp2_with fail
        clear cf
        go_loopw [4] (fun i wr => ∃ k : Nat,k ≤ rl ∧ i = .int .i64 k ∧ Hid (ringTo ts rs k) ∧ Hid (FX w wr (fabO ra rl rc ea 4 ec ta tl tc now) ra rl ea 4 ta tl rs es ts)) (fun i _ => rl - (intOf i).toNat)
        case atStart => exact ⟨0,by omega,rfl,fun j hj => by omega,H1.out⟩
        case round =>
          obtain ⟨n,hn,rfl,hro,hw⟩ := hrel
          clear H1
          have cf := fun o => fb_cell hw.out.fb.box o
          by_cases hlr : n < rl
          · have hnl : n < rs.length := by rw [HR.out]; exact hlr
            have HN2 : Hid (ringFitB ts (n : Int) rs[n] = false → fabRightB rs es ts now = false) := fun h => fab_no5 (ringTo_no (List.getElem?_eq_getElem hnl) h)
            have HY2 : Hid (ringFitB ts (n : Int) rs[n] = true → ringTo ts rs (n + 1)) := fun h => ringTo_succ hro.out (List.getElem?_eq_getElem hnl) h
            have HC : Hid _ := fun w (h1 : Rngs w ra rl rs) (h2 : Txs w ta tl ts) => spec_lring ra rl rc ea 4 ec ta tl tc now rs ts n rs[n] w h1 h2 (List.getElem?_eq_getElem hnl) hrl htl
            obtain ⟨B,hB⟩ : ∃ B,ringFitB ts (n : Int) rs[n] = B := ⟨_,rfl⟩
            rw [hB] at HN2 HY2 HC
            clear hB hro hnl
            go_wp2_with fail
            refine (HC.out _ hw.out.fin.rs hw.out.fin.ts).mono ?_
            rintro e v ⟨rfl,hbv⟩
            have H2 : Hid (FX w v (fabO ra rl rc ea 4 ec ta tl tc now) ra rl ea 4 ta tl rs es ts) := hw.out.under hbv
            clear hbv hw cf
            cases B with
            | true =>
              have HY3 : Hid _ := HY2.out rfl
              go_wp2
              exact ⟨⟨n + 1,by omega,by go_num,HY3.out,H2.out⟩,by simp [intOf]; omega⟩
            | false =>
              have HN3 : Hid _ := HN2.out rfl
              go_wp2
              go_ret
              exact ⟨ret_bool HN3.out.symm,H2.out.fb.bel⟩
          · have hE : Hid (fabRightB rs es ts now = true) := fab_yes HZ.out HN.out HTI.out HF.out (ringTo_yes (by rw [HR.out]; omega) hro.out)
            clear hro
            go_wp2
            go_ret
            exact ⟨ret_bool hE.out.symm,hw.out.fb.bel⟩
end Go.Proofs.YtahccighonddaaaGreatDoor
namespace Go.Proofs.YtahccighonddaaaGreatDoor
open Go.RowKit
attribute [local go_sem ↓] Go.wp_at_zero Go.wp_at_succ
theorem spec_there (ra : Option Addr) (rl rc : Nat) (ea : Option Addr) (el ec : Nat) (ta : Option Addr) (tl tc : Nat) (now : Int) (n : Int) (w : World) (hrl : rl ≤ 1048576) :
    Calls Tryz.prog 30 #[fabVal ra rl rc ea el ec ta tl tc now,.int .i64 n] w fun e w' => e = .returned (.bool (decide (0 ≤ n ∧ n ≤ (rl : Int) - 1))) ∧ Below w.heap.size w w' := by
  have hw : IntKind.i64.wrap ((rl : Int) - 1) = (rl : Int) - 1 := twrap_in _ (by omega) (by omega)
  go_enter Tryz.func30,Tryz.ntmps30
  go_wp2_with fail
  refine (tspec_is n 0 ((rl : Int) - 1) _).mono ?_
  rintro e w1 ⟨rfl,hw1⟩
  rw [hw1]
  clear hw1 w1
  obtain ⟨T,hT⟩ : ∃ T,decide (0 ≤ n ∧ n ≤ (rl : Int) - 1) = T := ⟨_,rfl⟩
  have HT : Hid (decide (0 ≤ n ∧ n ≤ (rl : Int) - 1) = T) := hT
  rw [hT]
  clear hT
  go_wp2
  go_ret
  exact ⟨ret_bool (by first | rfl | exact HT.out.symm | (rw [← HT.out]; simp)),fbelow_new _ _⟩
end Go.Proofs.YtahccighonddaaaGreatDoor
namespace Go.Proofs.YtahccighonddaaaGreatDoor
open Go.RowKit
variable {cap first : Int} {ra ca : Option Addr} {rl rc cl cc : Nat}
def moveR (cap first : Int) (recs : List ByteArray) (curs : List (Int × Int)) (g at' : Int) : RO :=
  if ringRightB cap first recs curs = false then RO.ill 1 else if findB g curs = false then RO.ill 6
  else if at' < (curs.getD (findK g curs) (0,0)).2 ∨ first + (recs.length : Int) < at' then RO.ill 8
  else trimR cap first recs (curs.take (findK g curs) ++ (g,at') :: curs.drop (findK g curs + 1))
end Go.Proofs.YtahccighonddaaaGreatDoor
namespace Go.Proofs.YtahccighonddaaaGreatDoor
open Go.RowKit
variable {cap first : Int} {ra ca : Option Addr} {rl rc cl cc : Nat}
theorem curCells_set (l : List (Int × Int)) (K : Nat) (h : K < l.length) (x : Int) : (curCells l).set (K * 2 + 1) (.int .i64 x) = curCells (l.take K ++ (l[K].1,x) :: l.drop (K + 1)) := by
  have e : curCells l = curCells (l.take K) ++ curCells (l[K] :: l.drop (K + 1)) := by
    rw [← curCells_append]; congr 1; simp
  have hl : (curCells (l.take K)).length = K * 2 := by rw [curCells_length,List.length_take]; omega
  rw [e,curCells_append,List.set_append_right _ _ (by omega),hl]
  congr 1
  rw [show K * 2 + 1 - K * 2 = 1 by omega]
  rfl
theorem move_end {w w7 : World} {base base' n q m p : Nat} {a c : Option Addr} {xs ys : List Value} (hB : Below w.heap.size w w7) (hx : w7.ownsRow base 9 1 (.slice a n q) n xs) (hy : w7.ownsRow base' 96 2 (.slice c m p) m ys) (hb : w.heap.size + 2 ≤ base) (hb' : w.heap.size + 2 ≤ base') (v0 v1 v2 v3 : Value) :
    OwnRing ((((w7.setCell ⟨w.heap.size + 1,0,none⟩ v0).setCell ⟨w.heap.size + 1,1,none⟩ v1).setCell ⟨w.heap.size + 1,2,none⟩ v2).setCell ⟨w.heap.size + 1,3,none⟩ v3) w.heap.size a n q c m p xs ys ∧ Below w.heap.size w ((((w7.setCell ⟨w.heap.size + 1,0,none⟩ v0).setCell ⟨w.heap.size + 1,1,none⟩ v1).setCell ⟨w.heap.size + 1,2,none⟩ v2).setCell ⟨w.heap.size + 1,3,none⟩ v3) := by
  have r1 : w.heap.size + 1 < base := by omega
  have r2 : w.heap.size + 1 < base' := by omega
  have k1 : w.heap.size ≤ w.heap.size + 1 := by omega
  refine ⟨⟨?_,?_⟩,?_⟩
  · exact (ownsRow_setCell_below (ownsRow_setCell_below (ownsRow_setCell_below (ownsRow_setCell_below hx (a := ⟨w.heap.size + 1,0,none⟩) r1 _) (a := ⟨w.heap.size + 1,1,none⟩) r1 _) (a := ⟨w.heap.size + 1,2,none⟩) r1 _) (a := ⟨w.heap.size + 1,3,none⟩) r1 _).mono (by omega)
  · exact (ownsRow_setCell_below (ownsRow_setCell_below (ownsRow_setCell_below (ownsRow_setCell_below hy (a := ⟨w.heap.size + 1,0,none⟩) r2 _) (a := ⟨w.heap.size + 1,1,none⟩) r2 _) (a := ⟨w.heap.size + 1,2,none⟩) r2 _) (a := ⟨w.heap.size + 1,3,none⟩) r2 _).mono (by omega)
  · exact (((hB.setCell (p := ⟨w.heap.size + 1,0,none⟩) k1 _).setCell (p := ⟨w.heap.size + 1,1,none⟩) k1 _).setCell (p := ⟨w.heap.size + 1,2,none⟩) k1 _).setCell (p := ⟨w.heap.size + 1,3,none⟩) k1 _
set_option maxRecDepth 100000 in
set_option maxHeartbeats 1000000 in
theorem spec_lmove (recs : List ByteArray) (curs cs : List (Int × Int)) (K P : Nat) (x : Int) (w : World) (hr : StrIn w ra rl rc recs) (hc : CurIn w ca cl cc curs) (hrl : rl ≤ 1048576) (hcl : cl ≤ 1048576) (hK : K < cl) (hcs : (curCells curs).set (K * 2 + 1) (.int .i64 x) = curCells cs) (hf : 0 ≤ first ∧ first ≤ 1000000) (hP : curLeast first cs = first + (P : Int)) (hPl : P ≤ rl) :
    Calls Tryz.prog 66 #[ringV cap first ra rl rc ca cl cc,.int .i64 K,.int .i64 x] w fun e w' => ∃ a q c p,e = .returned (ringV cap (first + (P : Int)) a (rl - P) q c cl p) ∧ OwnRing w' w.heap.size a (rl - P) q c cl p ((recs.drop P).map Value.string) (curCells cs) ∧ Below w.heap.size w w' := by
  have HR : Hid (StrIn w ra rl rc recs) := hr
  have HC : Hid (CurIn w ca cl cc curs) := hc
  have HLC : Hid (curs.length = cl) := hc.curs.1
  have HPE : Hid (curLeast first cs = first + (P : Int)) := hP
  have HFT : Hid (0 ≤ first ∧ first ≤ 1000000) := hf
  have HCS : Hid ((curCells curs).set (K * 2 + 1) (.int .i64 x) = curCells cs) := hcs
  have HS0 : Hid (SCopy w ((w.alloc (ringObj cap first ra rl rc ca cl cc)).alloc (ringObj 0 0 none 0 0 none 0 0)) cap first ra rl rc ca cl cc) := scopy_start w cap first ra rl rc ca cl cc
  clear hr hc hP hf hcs
  go_enter Tryz.func66,Tryz.ntmps66
  go_wp2_with fail
  refine (spec_copy recs curs _ (HR.out.below HS0.out.below) (HC.out.below HS0.out.below) (by omega) (by omega)).mono ?_
  rintro e w4 ⟨a4,q4,c4,p4,rfl,ho4,hb4⟩
  have e0 : ((w.alloc (ringObj cap first ra rl rc ca cl cc)).alloc (ringObj 0 0 none 0 0 none 0 0)).heap.size = w.heap.size + 2 := by simp
  rw [e0] at ho4
  have hs4 := HS0.out.grown (below_grown hb4) (fun j e => by cases e)
  obtain ⟨g4,rfl⟩ := own_form ho4.2 (by omega)
  have hg4 := (ho4.2.lt g4 rfl).2
  have hg4' := (ho4.2.lt g4 rfl).1
  have hcell := ho4.2.cellAt (K * 2 + 1) (by omega)
  obtain ⟨y,hy⟩ : ∃ y,(curCells curs)[K * 2 + 1]? = some y := ⟨_,List.getElem?_eq_getElem (by rw [curCells_length,HLC.out]; omega)⟩
  rw [hy] at hcell
  have hfr := ho4.2.frozenAt (K * 2 + 1)
  clear hy
  obtain ⟨hs5,hg5⟩ := ho4.2.stored (K * 2 + 1) (.int .i64 x)
  rw [HCS.out] at hs5
  have HX6 : Hid (((w4.setCell ⟨g4,K * 2 + 1,none⟩ (.int .i64 x)).alloc (ringObj cap first a4 rl q4 (some ⟨g4,0,none⟩) cl p4)).ownsRow (w.heap.size + 2) 9 1 (.slice a4 rl q4) rl (recs.map Value.string)) := (ho4.1.kept hg5 (own_apart ho4.1 ho4.2)).alloc (ringObj cap first a4 rl q4 (some ⟨g4,0,none⟩) cl p4)
  have HS6 : Hid (SCopy w ((w4.setCell ⟨g4,K * 2 + 1,none⟩ (.int .i64 x)).alloc (ringObj cap first a4 rl q4 (some ⟨g4,0,none⟩) cl p4)) cap first ra rl rc ca cl cc) := (hs4.grown hg5 (fun j e => (ho4.2.lt j e).1)).alloc (ringObj cap first a4 rl q4 (some ⟨g4,0,none⟩) cl p4)
  have HY6 : Hid (((w4.setCell ⟨g4,K * 2 + 1,none⟩ (.int .i64 x)).alloc (ringObj cap first a4 rl q4 (some ⟨g4,0,none⟩) cl p4)).ownsRow (w.heap.size + 2) 96 2 (.slice (some ⟨g4,0,none⟩) cl p4) cl (curCells cs)) := hs5.alloc (ringObj cap first a4 rl q4 (some ⟨g4,0,none⟩) cl p4)
  have hz6 : w.heap.size + 2 ≤ w4.heap.size := by omega
  clear hs5 hs4 ho4 hb4 hg5 e0
  go_wp2_with fail
  obtain ⟨a4',q4',e4,hS4⟩ := own_strIn HX6.out
  simp only [Value.slice.injEq] at e4
  obtain ⟨rfl,_,rfl⟩ := e4
  have HSI : Hid (StrIn ((w4.setCell ⟨g4,K * 2 + 1,none⟩ (.int .i64 x)).alloc (ringObj cap first a4 rl q4 (some ⟨g4,0,none⟩) cl p4)) a4 rl q4 recs) := hS4
  clear hS4
  refine (spec_trim recs cs P _ HSI.out (own_curs HY6.out) (by omega) (by omega) (own_capMax HX6.out) HFT.out HPE.out hPl).mono ?_
  rintro e w7 ⟨a7,q7,rfl,ho7,hb7⟩
  have hs7 := HS6.out.grown (below_grown hb7) (fun j e => by cases e)
  have hy7 := HY6.out.kept (below_grown hb7) (.inr (by simp [Value.ownBlock]))
  have g2 := fun o => cell_of_block0 hs7.b1 o
  have f2 := fun o => unfrozen_of_block0 hs7.b1 o
  have HF : Hid _ := move_end hs7.below ho7 hy7 HS6.out.size (Nat.le_refl _)
  clear hs7 hy7 ho7 hb7 hcell hfr
  go_wp2
  exact bodyPost_ret (v := ringV cap (first + (P : Int)) a7 (rl - P) q7 (some ⟨g4,0,none⟩) cl p4) (by simp [results,Tryz.results66,go_sem,g2]) rfl ⟨a7,q7,_,p4,rfl,(HF.out _ _ _ _).1,(HF.out _ _ _ _).2⟩
end Go.Proofs.YtahccighonddaaaGreatDoor
