import Derived.Test.YtahccighonddaaaGreatDoorNrm
import Derived.Test.YtahccighonddaaaGreatDoorRingSpec0
import Derived.Test.YtahccighonddaaaGreatDoorRingMath
import Derived.Test.YtahccighonddaaaGreatDoorRecBytes
import Derived.Test.YtahccighonddaaaGreatDoorSrc
import Derived.Deep.RegionHeld3
import Derived.Deep.DeepCutAuto
namespace Go.Proofs.YtahccighonddaaaGreatDoor
open Go.RowKit
set_option linter.unusedSimpArgs false
theorem nr1 {α : Type} (xs : List α) (i : Nat) (h : i < xs.toArray.size) : xs.toArray[i] = xs[i]'(by simpa using h) := rfl
theorem nr2 {α : Type} (x : α) (xs : List α) (h : 0 < (x :: xs).length) : (x :: xs)[0] = x := rfl
theorem nr3 {α : Type} (x : α) (xs : List α) (i : Nat) (h : i + 1 < (x :: xs).length) : (x :: xs)[i + 1] = xs[i]'(Nat.lt_of_succ_lt_succ h) := rfl
theorem nr4 {α : Type} (xs : List α) (i : Nat) (v : α) : xs.toArray.setIfInBounds i v = (xs.set i v).toArray := by simp
theorem nr5 {α : Type} (x v : α) (xs : List α) : (x :: xs).set 0 v = v :: xs := rfl
theorem nr6 {α : Type} (x v : α) (xs : List α) (i : Nat) : (x :: xs).set (i + 1) v = x :: xs.set i v := rfl
def prevG (curs : List (Int × Int)) (k : Nat) : Option Int := if k = 0 then none else (curs[k - 1]?).map (·.1)
theorem ring_no1 {cap first : Int} {recs : List ByteArray} {curs : List (Int × Int)} (h : ¬ (capB cap = true ∧ (0 ≤ first ∧ first ≤ 1000000) ∧ (recs.length : Int) ≤ cap ∧ first + (recs.length : Int) ≤ 1000000 ∧ curs.length ≤ 4)) : ringRightB cap first recs curs = false := by
  cases hR : ringRightB cap first recs curs
  · rfl
  · exfalso
    simp only [ringRightB,Bool.and_eq_true,decide_eq_true_eq] at hR
    exact h ⟨hR.1.1.1.1.1.1.1,hR.1.1.1.1.1.1.2,hR.1.1.1.1.1.2,hR.1.1.1.1.2,hR.1.1.1.2⟩
theorem ring_head {cap first : Int} {recs : List ByteArray} {curs : List (Int × Int)} (h : capB cap = true ∧ (0 ≤ first ∧ first ≤ 1000000) ∧ (recs.length : Int) ≤ cap ∧ first + (recs.length : Int) ≤ 1000000 ∧ curs.length ≤ 4) :
    ringRightB cap first recs curs = (recsOk recs && cursOk first (first + (recs.length : Int)) none curs && decide (curLeast first curs = first)) := by
  simp [ringRightB,h.1,h.2.1.1,h.2.1.2,h.2.2.1,h.2.2.2.1,h.2.2.2.2]
theorem cap_ge {cap : Int} (h : capB cap = true) : cap ≤ 16 := by
  simp [capB] at h
  omega
set_option maxRecDepth 100000 in
set_option maxHeartbeats 4000000 in
theorem spec_right_head (cap first : Int) (ra : Option Addr) (rl rc : Nat) (ca : Option Addr) (cl cc : Nat) (w : World) (hl : rl ≤ 1048576) (hcl : cl ≤ 1048576)
    (h : ¬ (capB cap = true ∧ (0 ≤ first ∧ first ≤ 1000000) ∧ (rl : Int) ≤ cap ∧ first + (rl : Int) ≤ 1000000 ∧ cl ≤ 4)) :
    Calls Tryz.prog 105 #[ringV cap first ra rl rc ca cl cc] w fun e w' => e = .returned (.bool false) ∧ Below w.heap.size w w' := by
  have HC : Hid _ := fun w => spec_cap cap w
  have HT : Hid _ := fun w => spec_time first w
  by_cases h1 : capB cap = true
  · rw [h1] at HC
    by_cases h2 : 0 ≤ first ∧ first ≤ 1000000
    · rw [decide_eq_true h2] at HT
      have HE : Hid _ := fun w => spec_end cap first ra rl rc ca cl cc w h2 hl
      by_cases h3 : (rl : Int) ≤ cap
      · by_cases h4 : first + (rl : Int) ≤ 1000000
        · have h5 : (4 : Int) < (cl : Int) := by
            rcases Nat.lt_or_ge 4 cl with hh | hh
            · omega
            · exact absurd ⟨h1,h2,h3,h4,hh⟩ h
          clear h h1 h2
          go_enter Tryz.func105,Tryz.ntmps105
          go_wp2_with fail
          refine (HC.out _).mono ?_
          rintro e w1 ⟨rfl,rfl⟩
          go_wp2_with fail
          refine (HT.out _).mono ?_
          rintro e w1 ⟨rfl,rfl⟩
          go_wp2_with fail
          refine (HE.out _).mono ?_
          rintro e w1 ⟨rfl,hb1⟩
          have hc1 := fun o => hb1.cell (p := ⟨w.heap.size,o,none⟩) (by simp)
          have hB : Below w.heap.size w w1 := ((Below.refl _ _).alloc (Nat.le_refl _) _).trans (hb1.mono (by simp))
          go_wp2
          go_ret
          exact ⟨rfl,hB⟩
        · have h4' : (1000000 : Int) < first + (rl : Int) := by omega
          clear h h1 h2 h4
          go_enter Tryz.func105,Tryz.ntmps105
          go_wp2_with fail
          refine (HC.out _).mono ?_
          rintro e w1 ⟨rfl,rfl⟩
          go_wp2_with fail
          refine (HT.out _).mono ?_
          rintro e w1 ⟨rfl,rfl⟩
          go_wp2_with fail
          refine (HE.out _).mono ?_
          rintro e w1 ⟨rfl,hb1⟩
          have hB : Below w.heap.size w w1 := ((Below.refl _ _).alloc (Nat.le_refl _) _).trans (hb1.mono (by simp))
          go_wp2
          go_ret
          exact ⟨rfl,hB⟩
      · have h3' : cap < (rl : Int) := by omega
        clear h h1 h2 h3
        go_enter Tryz.func105,Tryz.ntmps105
        go_wp2_with fail
        refine (HC.out _).mono ?_
        rintro e w1 ⟨rfl,rfl⟩
        go_wp2_with fail
        refine (HT.out _).mono ?_
        rintro e w1 ⟨rfl,rfl⟩
        go_wp2
        go_ret
        exact ⟨rfl,(Below.refl _ _).alloc (Nat.le_refl _) _⟩
    · rw [decide_eq_false h2] at HT
      clear h h1 h2
      go_enter Tryz.func105,Tryz.ntmps105
      go_wp2_with fail
      refine (HC.out _).mono ?_
      rintro e w1 ⟨rfl,rfl⟩
      go_wp2_with fail
      refine (HT.out _).mono ?_
      rintro e w1 ⟨rfl,rfl⟩
      go_wp2
      go_ret
      exact ⟨rfl,(Below.refl _ _).alloc (Nat.le_refl _) _⟩
  · have h1' : capB cap = false := by cases hx : capB cap; rfl; exact absurd hx h1
    rw [h1'] at HC
    clear h h1 h1'
    go_enter Tryz.func105,Tryz.ntmps105
    go_wp2_with fail
    refine (HC.out _).mono ?_
    rintro e w1 ⟨rfl,rfl⟩
    go_wp2
    go_ret
    exact ⟨rfl,(Below.refl _ _).alloc (Nat.le_refl _) _⟩
theorem cursOk_cons {first fin : Int} {curs : List (Int × Int)} {k : Nat} (hk : k < curs.length) :
    cursOk first fin (prevG curs k) (curs.drop k) = (decide (1 ≤ curs[k].1 ∧ curs[k].1 ≤ 9) && decide (first ≤ curs[k].2 ∧ curs[k].2 ≤ fin) && (match prevG curs k with | none => true | some q => decide (q < curs[k].1)) && cursOk first fin (prevG curs (k + 1)) (curs.drop (k + 1))) := by
  have e : prevG curs (k + 1) = some curs[k].1 := by
    simp [prevG,List.getElem?_eq_getElem hk]
  rw [e,List.drop_eq_getElem_cons hk]
  rfl
theorem prevG_succ {curs : List (Int × Int)} {j : Nat} (hj : j < curs.length) : prevG curs (j + 1) = some curs[j].1 := by
  simp [prevG,List.getElem?_eq_getElem hj]
def RInv (w : World) (o : Obj) (wx : World) : Prop := wx.heap[w.heap.size]? = some o ∧ Below w.heap.size w wx
theorem rinv_lt {w wx : World} {o : Obj} (h : RInv w o wx) : w.heap.size < wx.heap.size := by
  rcases Nat.lt_or_ge w.heap.size wx.heap.size with h' | h'
  · exact h'
  · have := h.1; rw [Array.getElem?_eq_none h'] at this; cases this
theorem rinv_step {w wx wn : World} {o : Obj} (h : RInv w o wx) (hb : Below wx.heap.size wx wn) : RInv w o wn :=
  ⟨(hb.block _ (rinv_lt h)).trans h.1,h.2.trans (hb.mono (Nat.le_of_lt (rinv_lt h)))⟩
theorem rinv_drew {w wx : World} {o : Obj} (h : RInv w o wx) : RInv w o wx.drew := ⟨h.1,h.2.drew⟩
abbrev BoxS (w : World) (cap first : Int) (ra : Option Addr) (rl rc : Nat) (ca : Option Addr) (cl cc : Nat) (wx : World) : Prop :=
  (wx.cell? ⟨w.heap.size,0,none⟩ = some (.int .i64 cap) ∧ wx.cell? ⟨w.heap.size,1,none⟩ = some (.int .i64 first) ∧ wx.cell? ⟨w.heap.size,2,none⟩ = some (.slice ra rl rc) ∧ wx.cell? ⟨w.heap.size,3,none⟩ = some (.slice ca cl cc)) ∧
    Hid (RInv w (ringObj cap first ra rl rc ca cl cc) wx)
theorem boxS_of {w wx : World} {cap first : Int} {ra : Option Addr} {rl rc : Nat} {ca : Option Addr} {cl cc : Nat} (h : RInv w (ringObj cap first ra rl rc ca cl cc) wx) : BoxS w cap first ra rl rc ca cl cc wx :=
  ⟨⟨cell_of_heap h.1 0,cell_of_heap h.1 1,cell_of_heap h.1 2,cell_of_heap h.1 3⟩,h⟩
theorem boxS_step {w wx wn : World} {cap first : Int} {ra : Option Addr} {rl rc : Nat} {ca : Option Addr} {cl cc : Nat} (h : BoxS w cap first ra rl rc ca cl cc wx) (hb : Below wx.heap.size wx wn) : BoxS w cap first ra rl rc ca cl cc wn :=
  boxS_of (rinv_step h.2.out hb)
theorem boxS_curs {w wx : World} {cap first : Int} {ra : Option Addr} {rl rc : Nat} {ca : Option Addr} {cl cc : Nat} {curs : List (Int × Int)} (h : BoxS w cap first ra rl rc ca cl cc wx) (hc : Curs w ca cl curs) : Curs wx ca cl curs := curs_below hc h.2.out.2
abbrev curObj (G A : Int) : Obj := .cells #[.int .i64 G,.int .i64 A] 96 (0,0)
def CInv (w : World) (o : Obj) (cb : Nat) (G A : Int) (p : Addr) (Gp : Int) (wx : World) : Prop :=
  RInv w o wx ∧ wx.heap[cb]? = some (curObj G A) ∧ wx.cell? p = some (.int .i64 Gp)
theorem cinv_drew {w wx : World} {o : Obj} {cb : Nat} {G A Gp : Int} {p : Addr} (h : CInv w o cb G A p Gp wx) : CInv w o cb G A p Gp wx.drew := ⟨rinv_drew h.1,h.2.1,h.2.2⟩
theorem cinv_step {w wx wn : World} {o : Obj} {cb : Nat} {G A Gp : Int} {p : Addr} (h : CInv w o cb G A p Gp wx) (hb : Below wx.heap.size wx wn) : CInv w o cb G A p Gp wn :=
  ⟨rinv_step h.1 hb,(hb.block cb (by
    rcases Nat.lt_or_ge cb wx.heap.size with h' | h'
    · exact h'
    · have := h.2.1; rw [Array.getElem?_eq_none h'] at this; cases this)).trans h.2.1,(hb.cell (World.block_lt_of_cell? wx p h.2.2)).trans h.2.2⟩
abbrev CurS (w : World) (cap first : Int) (ra : Option Addr) (rl rc : Nat) (ca : Option Addr) (cl cc : Nat) (cb : Nat) (G A : Int) (p : Addr) (Gp : Int) (wx : World) : Prop :=
  (wx.cell? ⟨w.heap.size,0,none⟩ = some (.int .i64 cap) ∧ wx.cell? ⟨w.heap.size,1,none⟩ = some (.int .i64 first) ∧ wx.cell? ⟨w.heap.size,2,none⟩ = some (.slice ra rl rc) ∧ wx.cell? ⟨w.heap.size,3,none⟩ = some (.slice ca cl cc)) ∧
    (wx.cell? ⟨cb,0,none⟩ = some (.int .i64 G) ∧ wx.cell? ⟨cb,1,none⟩ = some (.int .i64 A) ∧ wx.cell? p = some (.int .i64 Gp)) ∧ Hid (CInv w (ringObj cap first ra rl rc ca cl cc) cb G A p Gp wx)
theorem curS_of {w wx : World} {cap first : Int} {ra : Option Addr} {rl rc : Nat} {ca : Option Addr} {cl cc : Nat} {cb : Nat} {G A Gp : Int} {p : Addr} (h : CInv w (ringObj cap first ra rl rc ca cl cc) cb G A p Gp wx) : CurS w cap first ra rl rc ca cl cc cb G A p Gp wx :=
  ⟨⟨cell_of_heap h.1.1 0,cell_of_heap h.1.1 1,cell_of_heap h.1.1 2,cell_of_heap h.1.1 3⟩,⟨cell_of_heap h.2.1 0,cell_of_heap h.2.1 1,h.2.2⟩,h⟩
theorem curS_step {w wx wn : World} {cap first : Int} {ra : Option Addr} {rl rc : Nat} {ca : Option Addr} {cl cc : Nat} {cb : Nat} {G A Gp : Int} {p : Addr} (h : CurS w cap first ra rl rc ca cl cc cb G A p Gp wx) (hb : Below wx.heap.size wx wn) : CurS w cap first ra rl rc ca cl cc cb G A p Gp wn :=
  curS_of (cinv_step h.2.2.out hb)
set_option maxRecDepth 100000 in
set_option maxHeartbeats 8000000 in
theorem spec_right_body (cap first : Int) (ra : Option Addr) (rl rc : Nat) (ca : Option Addr) (cl cc : Nat) (recs : List ByteArray) (curs : List (Int × Int)) (w : World) (hr : Strs w ra rl recs) (hc : Curs w ca cl curs) (hs : ∀ s ∈ recs,s.size ≤ maxLen)
    (hcap : capB cap = true) (hfirst : 0 ≤ first ∧ first ≤ 1000000) (hrl : (rl : Int) ≤ cap) (hend : first + (rl : Int) ≤ 1000000) (hcl : cl ≤ 4) :
    Calls Tryz.prog 105 #[ringV cap first ra rl rc ca cl cc] w fun e w' => e = .returned (.bool (recsOk recs && cursOk first (first + (rl : Int)) none curs && decide (curLeast first curs = first))) ∧ Below w.heap.size w w' := by
  have hl16 := cap_ge hcap
  have hl : rl ≤ 1048576 := by omega
  have HC : Hid _ := fun w => spec_cap cap w
  have HT : Hid _ := fun w => spec_time first w
  have HE : Hid _ := fun w => spec_end cap first ra rl rc ca cl cc w hfirst hl
  rw [hcap] at HC
  rw [decide_eq_true hfirst] at HT
  have HR0 : Hid _ := hr
  have HU0 : Hid _ := hc
  have HS : Hid _ := hs
  have HF : Hid (0 ≤ first ∧ first ≤ 1000000) := hfirst
  clear hr hc hs hcap hfirst hl16
  go_enter Tryz.func105,Tryz.ntmps105
  go_wp2_with fail
  refine (HC.out _).mono ?_
  rintro e w1 ⟨rfl,rfl⟩
  go_wp2_with fail
  refine (HT.out _).mono ?_
  rintro e w1 ⟨rfl,rfl⟩
  go_wp2_with fail
  refine (HE.out _).mono ?_
  rintro e w1 ⟨rfl,hb1⟩
  have HBX : Hid (w1.heap[w.heap.size]? = some (ringObj cap first ra rl rc ca cl cc)) := (hb1.block w.heap.size (by simp)).trans (heap_alloc_new w _)
  have HL1 : Hid (Below w.heap.size w w1) := ((Below.refl _ _).alloc (Nat.le_refl _) _).trans (hb1.mono (by simp))
  have hc1 := cell_of_heap HBX.out
  clear hb1
  go_wp2
  clear hc1
  go_loopw [3] (fun i wr => ∃ k : Nat,k ≤ rl ∧ i = .int .i64 k ∧ Hid (wr.heap[w.heap.size]? = some (ringObj cap first ra rl rc ca cl cc)) ∧ Hid (Below w.heap.size w wr) ∧ Hid (recsOk (recs.take k) = true)) (fun i _ => rl - (intOf i).toNat)
  case atStart => exact ⟨0,by omega,rfl,HBX,HL1,rfl⟩
  case round =>
    obtain ⟨k,hk,rfl,hbx,hbel,hok⟩ := hrel
    have hcb := cell_of_heap hbx.out
    by_cases hlt : k < rl
    · have hki : k < recs.length := by have h := HR0.out.1; omega
      obtain ⟨b,off,rfl,hcell⟩ := (strs_below HR0.out hbel.out).2 k hki
      obtain ⟨s,hs⟩ : ∃ s,recs[k] = s := ⟨_,rfl⟩
      have HRD : Hid _ := fun w => spec_recRead s w (by rw [← hs]; exact HS.out _ (List.getElem_mem _))
      have hsz := hbel.out.size
      have hzb : w.heap.size < wr.heap.size := by
        rcases Nat.lt_or_ge w.heap.size wr.heap.size with h | h
        · exact h
        · have := hbx.out; rw [Array.getElem?_eq_none h] at this; cases this
      have hq : Hid (recOkB s = ((readRes s).2.2.2 == 0)) := rfl
      have hnx : Hid (recsOk (recs.take (k + 1)) = recOkB s) := by
        show _ = _
        rw [List.take_succ_eq_append_getElem hki,recsOk,List.all_append]
        have := hok.out
        unfold recsOk at this
        simp [this,hs]
      have hno : Hid (recOkB s = false → recsOk recs = false) := fun h => by
        rw [recsOk,List.all_eq_false]
        exact ⟨recs[k],List.getElem_mem _,by rw [hs,h]; simp⟩
      rw [hs] at hcell
      obtain ⟨kk,tt,dd,c',hres⟩ : ∃ kk tt dd c',readRes s = (kk,tt,dd,c') := ⟨_,_,_,_,rfl⟩
      rw [hres] at HRD hq
      have hfld : ∀ w,(Instr.field 164 (.agg #[.int .i64 kk,.int .i64 tt,.string dd,.int .i64 (c' : Int)]) 1).run Tryz.prog w = .ok (.int .i64 (c' : Int)) w := fun _ => by kernel_rfl
      have hltI : (k : Int) < (rl : Int) := by omega
      clear hs hres
      by_cases hc0 : c' = 0
      · have hcb0 : ((c' : Int) != 0) = false := by simp [hc0]
        have hOK : Hid (recsOk (recs.take (k + 1)) = true) := by show _ = _; rw [hnx.out,hq.out,hc0]; rfl
        clear hc0
        go_wp2_with fail
        refine (HRD.out _).mono ?_
        rintro e w2 ⟨rfl,hb2⟩
        have hbx2 : Hid (w2.heap[w.heap.size]? = some (ringObj cap first (some ⟨b,off,none⟩) rl rc ca cl cc)) := (hb2.block w.heap.size hzb).trans hbx.out
        have hbel2 : Hid (Below w.heap.size w w2) := hbel.out.trans (hb2.mono (by omega))
        clear hb2
        go_wp2
        go_roundw
        case rel => exact ⟨k + 1,by omega,by go_num,hbx2,hbel2,hOK⟩
        case measure => simp [intOf]; omega
      · have hcb0 : ((c' : Int) != 0) = true := by rw [bne_iff_ne]; omega
        have hNO : Hid (recsOk recs = false) := hno.out (by rw [hq.out]; simp [hc0])
        clear hc0
        go_wp2_with fail
        refine (HRD.out _).mono ?_
        rintro e w2 ⟨rfl,hb2⟩
        have hbel2 : Hid (Below w.heap.size w w2) := hbel.out.trans (hb2.mono (by omega))
        clear hb2
        go_wp2
        go_ret
        exact ⟨ret_bool (by rw [hNO.out]; rfl),hbel2.out⟩
    · have hALL : Hid (recsOk recs = true) := by
        have h := hok.out
        rw [List.take_of_length_le (by have h := HR0.out.1; omega)] at h
        exact h
      have HBX2 : Hid _ := hbx.out
      have HL2 : Hid _ := hbel.out
      go_wp2
      clear hcb
      go_loopw [4,5] (fun i _ wr2 => ∃ k : Nat,k ≤ cl ∧ i = .int .i64 k ∧ Hid (wr2.heap[w.heap.size]? = some (ringObj cap first ra rl rc ca cl cc)) ∧ Hid (Below w.heap.size w wr2) ∧ Hid (cursOk first (first + (rl : Int)) (prevG curs k) (curs.drop k) = cursOk first (first + (rl : Int)) none curs)) (fun i _ _ => cl - (intOf i).toNat)
      case atStart => exact ⟨0,by omega,rfl,HBX2,HL2,rfl⟩
      case round =>
        obtain ⟨k,hk,rfl,hbx,hbel,hok⟩ := hrel
        have hcb := cell_of_heap hbx.out
        have HI : Hid (RInv w (ringObj cap first ra rl rc ca cl cc) wr) := ⟨hbx.out,hbel.out⟩
        have hzb : w.heap.size < wr.heap.size := rinv_lt HI.out
        by_cases hlt : k < cl
        · have hki : k < curs.length := by have h := HU0.out.1; omega
          obtain ⟨b,off,rfl,hg,ha⟩ := (curs_below HU0.out hbel.out).2 k hki
          have hcons := cursOk_cons (first := first) (fin := first + (rl : Int)) hki
          obtain ⟨G,hG⟩ : ∃ G,curs[k].1 = G := ⟨_,rfl⟩
          obtain ⟨A,hA⟩ : ∃ A,curs[k].2 = A := ⟨_,rfl⟩
          rw [hG] at hg hcons
          rw [hA] at ha hcons
          have HCO : Hid _ := hcons
          have HI1 : Hid _ := fun w => spec_is G 1 9 w
          have HI2 : Hid _ := fun w => spec_is A first (first + (rl : Int)) w
          clear hcons hA
          have hltI : (k : Int) < (cl : Int) := by omega
          cases k with
          | zero =>
            have hgz : wr.cell? ⟨b,off,none⟩ = some (.int .i64 G) := by simpa using hg
            have haz : wr.cell? ⟨b,off + 1,none⟩ = some (.int .i64 A) := by simpa using ha
            have hbz : b < wr.heap.size := World.block_lt_of_cell? wr ⟨b,off,none⟩ hgz
            have HCI : Hid (CInv w (ringObj cap first ra rl rc (some ⟨b,off,none⟩) cl cc) wr.heap.size G A ⟨b,off,none⟩ G (wr.alloc (curObj G A))) :=
              ⟨rinv_step HI.out ((Below.refl _ _).alloc (Nat.le_refl _) _),heap_alloc_new wr _,by rw [World.cell?_alloc_lt _ _ _ hbz]; exact hgz⟩
            by_cases x1 : 1 ≤ G ∧ G ≤ 9
            · rw [decide_eq_true x1] at HI1
              by_cases x2 : first ≤ A ∧ A ≤ first + (rl : Int)
              · rw [decide_eq_true x2] at HI2
                have HNX : Hid (cursOk first (first + (rl : Int)) (prevG curs (0 + 1)) (curs.drop (0 + 1)) = cursOk first (first + (rl : Int)) none curs) := by
                  have h := HCO.out.symm.trans hok.out
                  rw [decide_eq_true x1,decide_eq_true x2] at h
                  show _ = _
                  rw [← h]
                  simp [prevG]
                clear x1 x2 HCO hg ha
                go_upto_region 12 with fail
                go_cut [91] (fun s91 wc => s91 = .bool false ∧ Hid (RInv w (ringObj cap first ra rl rc (some ⟨b,off,none⟩) cl cc) wc))
                case first =>
                  refine wp_region_held_drew (S := (fun wx => (wx.cell? ⟨w.heap.size,0,none⟩ = some (.int .i64 cap) ∧ wx.cell? ⟨w.heap.size,1,none⟩ = some (.int .i64 first) ∧ wx.cell? ⟨w.heap.size,2,none⟩ = some (.slice ra rl rc) ∧ wx.cell? ⟨w.heap.size,3,none⟩ = some (.slice (some ⟨b,off,none⟩) cl cc)) ∧ (wx.cell? ⟨wr.heap.size,0,none⟩ = some (.int .i64 G) ∧ wx.cell? ⟨wr.heap.size,1,none⟩ = some (.int .i64 A) ∧ wx.cell? ⟨b,off,none⟩ = some (.int .i64 G)) ∧ Hid (CInv w (ringObj cap first ra rl rc (some ⟨b,off,none⟩) cl cc) wr.heap.size G A ⟨b,off,none⟩ G wx))) (by kernel_rfl) (curS_of (cinv_drew HCI.out)) (fun hHeld => ?_)
                  refine tk (i := 0) (v := ?_) rfl hHeld (.inl ⟨by rfl,?_⟩) ?_
                  rotate_left
                  · intro wy hSw; (try dsimp only at hSw); go_simp; (try with_reducible rfl)
                  try simp only [Act.put,nr1,nr2,nr3,nr4,nr5,nr6]
                  refine tk (i := 1) (v := ?_) rfl hHeld (.inl ⟨by rfl,?_⟩) ?_
                  rotate_left
                  · intro wy hSw; (try dsimp only at hSw); go_simp; (try with_reducible rfl)
                  try simp only [Act.put,nr1,nr2,nr3,nr4,nr5,nr6]
                  refine wpAnyH_ready (rs := [2]) (by kernel_rfl) (by simp) ?_
                  refine AllReadyH.cons rfl (fun K hK => ?_) AllReadyH.nil
                  go_simp
                  refine (HI1.out _).mono ?_; rintro e wn ⟨rfl,rfl⟩
                  go_wp2_with fail
                  refine hK.out _ _ ?_ (fun hHeld => ?_)
                  · exact hHeld
                  clear hK K
                  try simp only [Act.put,nr1,nr2,nr3,nr4,nr5,nr6]
                  refine tk (i := 3) (v := ?_) rfl hHeld (.inl ⟨by rfl,?_⟩) ?_
                  rotate_left
                  · intro wy hSw; (try dsimp only at hSw); go_simp; (try with_reducible rfl)
                  try simp only [Act.put,nr1,nr2,nr3,nr4,nr5,nr6]
                  refine tk (i := 4) (v := ?_) rfl hHeld (.inl ⟨by rfl,?_⟩) ?_
                  rotate_left
                  · intro wy hSw; (try dsimp only at hSw); go_simp; (try with_reducible rfl)
                  try simp only [Act.put,nr1,nr2,nr3,nr4,nr5,nr6]
                  refine tk (i := 5) (v := ?_) rfl hHeld (.inl ⟨by rfl,?_⟩) ?_
                  rotate_left
                  · intro wy hSw; (try dsimp only at hSw); go_simp; (try with_reducible rfl)
                  try simp only [Act.put,nr1,nr2,nr3,nr4,nr5,nr6]
                  refine tk (i := 6) (v := ?_) rfl hHeld (.inl ⟨by rfl,?_⟩) ?_
                  rotate_left
                  · intro wy hSw; (try dsimp only at hSw); go_simp; (try with_reducible rfl)
                  try simp only [Act.put,nr1,nr2,nr3,nr4,nr5,nr6]
                  refine tk (i := 7) (v := ?_) rfl hHeld (.inl ⟨by rfl,?_⟩) ?_
                  rotate_left
                  · intro wy hSw; (try dsimp only at hSw); go_simp; (try with_reducible rfl)
                  try simp only [Act.put,nr1,nr2,nr3,nr4,nr5,nr6]
                  refine tk (i := 8) (v := ?_) rfl hHeld (.inl ⟨by rfl,?_⟩) ?_
                  rotate_left
                  · intro wy hSw; (try dsimp only at hSw); go_simp; (try with_reducible rfl)
                  try simp only [Act.put,nr1,nr2,nr3,nr4,nr5,nr6]
                  refine tk (i := 9) (v := ?_) rfl hHeld (.inl ⟨by rfl,?_⟩) ?_
                  rotate_left
                  · intro wy hSw; (try dsimp only at hSw); go_simp; (try with_reducible rfl)
                  try simp only [Act.put,nr1,nr2,nr3,nr4,nr5,nr6]
                  refine wpAnyH_ready (rs := [10]) (by kernel_rfl) (by simp) ?_
                  refine AllReadyH.cons rfl (fun K hK => ?_) AllReadyH.nil
                  go_simp
                  refine (HE.out _).mono ?_; rintro e wn ⟨rfl,hbn⟩
                  go_wp2_with fail
                  refine hK.out _ _ ?_ (fun hHeld => ?_)
                  · exact curS_step hHeld hbn
                  clear hK K
                  try simp only [Act.put,nr1,nr2,nr3,nr4,nr5,nr6]
                  refine wpAnyH_ready (rs := [11]) (by kernel_rfl) (by simp) ?_
                  refine AllReadyH.cons rfl (fun K hK => ?_) AllReadyH.nil
                  go_simp
                  refine (HI2.out _).mono ?_; rintro e wm ⟨rfl,rfl⟩
                  go_wp2_with fail
                  refine hK.out _ _ ?_ (fun hHeld => ?_)
                  · exact hHeld
                  clear hK K
                  try simp only [Act.put,nr1,nr2,nr3,nr4,nr5,nr6]
                  refine tk (i := 12) (v := ?_) rfl hHeld (.inl ⟨by rfl,?_⟩) ?_
                  rotate_left
                  · intro wy hSw; (try dsimp only at hSw); go_simp; (try with_reducible rfl)
                  try simp only [Act.put,nr1,nr2,nr3,nr4,nr5,nr6]
                  refine tk (i := 13) (v := ?_) rfl hHeld (.inl ⟨by rfl,?_⟩) ?_
                  rotate_left
                  · intro wy hSw; (try dsimp only at hSw); go_simp; (try with_reducible rfl)
                  try simp only [Act.put,nr1,nr2,nr3,nr4,nr5,nr6]
                  refine tk (i := 14) (v := ?_) rfl hHeld (.inl ⟨by rfl,?_⟩) ?_
                  rotate_left
                  · intro wy hSw; (try dsimp only at hSw); go_simp; (try with_reducible rfl)
                  try simp only [Act.put,nr1,nr2,nr3,nr4,nr5,nr6]
                  refine tk (i := 15) (v := ?_) rfl hHeld (.inl ⟨by rfl,?_⟩) ?_
                  rotate_left
                  · intro wy hSw; (try dsimp only at hSw); go_simp; (try with_reducible rfl)
                  try simp only [Act.put,nr1,nr2,nr3,nr4,nr5,nr6]
                  refine tk (i := 16) (v := ?_) rfl hHeld (.inl ⟨by rfl,?_⟩) ?_
                  rotate_left
                  · intro wy hSw; (try dsimp only at hSw); go_simp; (try with_reducible rfl)
                  try simp only [Act.put,nr1,nr2,nr3,nr4,nr5,nr6]
                  refine tk (i := 17) (v := ?_) rfl hHeld (.inl ⟨by rfl,?_⟩) ?_
                  rotate_left
                  · intro wy hSw; (try dsimp only at hSw); go_simp; (try with_reducible rfl)
                  try simp only [Act.put,nr1,nr2,nr3,nr4,nr5,nr6]
                  refine tk (i := 18) (v := undef) rfl hHeld (.inr ⟨by rfl,rfl⟩) ?_
                  try simp only [Act.put,nr1,nr2,nr3,nr4,nr5,nr6]
                  refine tk (i := 19) (v := undef) rfl hHeld (.inr ⟨by rfl,rfl⟩) ?_
                  try simp only [Act.put,nr1,nr2,nr3,nr4,nr5,nr6]
                  refine tk (i := 20) (v := undef) rfl hHeld (.inr ⟨by rfl,rfl⟩) ?_
                  try simp only [Act.put,nr1,nr2,nr3,nr4,nr5,nr6]
                  refine tk (i := 21) (v := undef) rfl hHeld (.inr ⟨by rfl,rfl⟩) ?_
                  try simp only [Act.put,nr1,nr2,nr3,nr4,nr5,nr6]
                  refine tk (i := 22) (v := undef) rfl hHeld (.inr ⟨by rfl,rfl⟩) ?_
                  try simp only [Act.put,nr1,nr2,nr3,nr4,nr5,nr6]
                  refine tk (i := 23) (v := undef) rfl hHeld (.inr ⟨by rfl,rfl⟩) ?_
                  try simp only [Act.put,nr1,nr2,nr3,nr4,nr5,nr6]
                  refine tk (i := 24) (v := undef) rfl hHeld (.inr ⟨by rfl,rfl⟩) ?_
                  try simp only [Act.put,nr1,nr2,nr3,nr4,nr5,nr6]
                  refine tk (i := 25) (v := undef) rfl hHeld (.inr ⟨by rfl,rfl⟩) ?_
                  try simp only [Act.put,nr1,nr2,nr3,nr4,nr5,nr6]
                  refine tk (i := 26) (v := undef) rfl hHeld (.inr ⟨by rfl,rfl⟩) ?_
                  try simp only [Act.put,nr1,nr2,nr3,nr4,nr5,nr6]
                  refine tk (i := 27) (v := undef) rfl hHeld (.inr ⟨by rfl,rfl⟩) ?_
                  try simp only [Act.put,nr1,nr2,nr3,nr4,nr5,nr6]
                  refine tk (i := 28) (v := ?_) rfl hHeld (.inl ⟨by rfl,?_⟩) ?_
                  rotate_left
                  · intro wy hSw; (try dsimp only at hSw); go_simp; (try with_reducible rfl)
                  try simp only [Act.put,nr1,nr2,nr3,nr4,nr5,nr6]
                  refine tk (i := 29) (v := ?_) rfl hHeld (.inl ⟨by rfl,?_⟩) ?_
                  rotate_left
                  · intro wy hSw; (try dsimp only at hSw); go_simp; (try with_reducible rfl)
                  try simp only [Act.put,nr1,nr2,nr3,nr4,nr5,nr6]
                  refine wpAnyH_done (by kernel_rfl) ?_ _
                  go_wp2_with fail
                  go_meet
                  exact ⟨rfl,(cinv_step (cinv_drew HCI.out) hbn).1⟩
                case rest =>
                obtain ⟨rfl,HFIN⟩ := hcut
                clear HCI
                go_wp2
                go_roundw
                case rel => exact ⟨0 + 1,by omega,by go_num,HFIN.out.1,HFIN.out.2,HNX⟩
                case measure => simp [intOf]; omega
              · rw [decide_eq_false x2] at HI2
                have hFA : Hid (cursOk first (first + (rl : Int)) none curs = false) := by
                  have h := HCO.out.symm.trans hok.out
                  show _ = _
                  rw [← h,decide_eq_false x2]
                  simp
                clear x1 x2 HCO hg ha
                go_upto_region 12 with fail
                go_cut [91] (fun s91 wc => s91 = .bool true ∧ Hid (RInv w (ringObj cap first ra rl rc (some ⟨b,off,none⟩) cl cc) wc))
                case first =>
                  refine wp_region_held_drew (S := (fun wx => (wx.cell? ⟨w.heap.size,0,none⟩ = some (.int .i64 cap) ∧ wx.cell? ⟨w.heap.size,1,none⟩ = some (.int .i64 first) ∧ wx.cell? ⟨w.heap.size,2,none⟩ = some (.slice ra rl rc) ∧ wx.cell? ⟨w.heap.size,3,none⟩ = some (.slice (some ⟨b,off,none⟩) cl cc)) ∧ (wx.cell? ⟨wr.heap.size,0,none⟩ = some (.int .i64 G) ∧ wx.cell? ⟨wr.heap.size,1,none⟩ = some (.int .i64 A) ∧ wx.cell? ⟨b,off,none⟩ = some (.int .i64 G)) ∧ Hid (CInv w (ringObj cap first ra rl rc (some ⟨b,off,none⟩) cl cc) wr.heap.size G A ⟨b,off,none⟩ G wx))) (by kernel_rfl) (curS_of (cinv_drew HCI.out)) (fun hHeld => ?_)
                  refine tk (i := 0) (v := ?_) rfl hHeld (.inl ⟨by rfl,?_⟩) ?_
                  rotate_left
                  · intro wy hSw; (try dsimp only at hSw); go_simp; (try with_reducible rfl)
                  try simp only [Act.put,nr1,nr2,nr3,nr4,nr5,nr6]
                  refine tk (i := 1) (v := ?_) rfl hHeld (.inl ⟨by rfl,?_⟩) ?_
                  rotate_left
                  · intro wy hSw; (try dsimp only at hSw); go_simp; (try with_reducible rfl)
                  try simp only [Act.put,nr1,nr2,nr3,nr4,nr5,nr6]
                  refine wpAnyH_ready (rs := [2]) (by kernel_rfl) (by simp) ?_
                  refine AllReadyH.cons rfl (fun K hK => ?_) AllReadyH.nil
                  go_simp
                  refine (HI1.out _).mono ?_; rintro e wn ⟨rfl,rfl⟩
                  go_wp2_with fail
                  refine hK.out _ _ ?_ (fun hHeld => ?_)
                  · exact hHeld
                  clear hK K
                  try simp only [Act.put,nr1,nr2,nr3,nr4,nr5,nr6]
                  refine tk (i := 3) (v := ?_) rfl hHeld (.inl ⟨by rfl,?_⟩) ?_
                  rotate_left
                  · intro wy hSw; (try dsimp only at hSw); go_simp; (try with_reducible rfl)
                  try simp only [Act.put,nr1,nr2,nr3,nr4,nr5,nr6]
                  refine tk (i := 4) (v := ?_) rfl hHeld (.inl ⟨by rfl,?_⟩) ?_
                  rotate_left
                  · intro wy hSw; (try dsimp only at hSw); go_simp; (try with_reducible rfl)
                  try simp only [Act.put,nr1,nr2,nr3,nr4,nr5,nr6]
                  refine tk (i := 5) (v := ?_) rfl hHeld (.inl ⟨by rfl,?_⟩) ?_
                  rotate_left
                  · intro wy hSw; (try dsimp only at hSw); go_simp; (try with_reducible rfl)
                  try simp only [Act.put,nr1,nr2,nr3,nr4,nr5,nr6]
                  refine tk (i := 6) (v := ?_) rfl hHeld (.inl ⟨by rfl,?_⟩) ?_
                  rotate_left
                  · intro wy hSw; (try dsimp only at hSw); go_simp; (try with_reducible rfl)
                  try simp only [Act.put,nr1,nr2,nr3,nr4,nr5,nr6]
                  refine tk (i := 7) (v := ?_) rfl hHeld (.inl ⟨by rfl,?_⟩) ?_
                  rotate_left
                  · intro wy hSw; (try dsimp only at hSw); go_simp; (try with_reducible rfl)
                  try simp only [Act.put,nr1,nr2,nr3,nr4,nr5,nr6]
                  refine tk (i := 8) (v := ?_) rfl hHeld (.inl ⟨by rfl,?_⟩) ?_
                  rotate_left
                  · intro wy hSw; (try dsimp only at hSw); go_simp; (try with_reducible rfl)
                  try simp only [Act.put,nr1,nr2,nr3,nr4,nr5,nr6]
                  refine tk (i := 9) (v := ?_) rfl hHeld (.inl ⟨by rfl,?_⟩) ?_
                  rotate_left
                  · intro wy hSw; (try dsimp only at hSw); go_simp; (try with_reducible rfl)
                  try simp only [Act.put,nr1,nr2,nr3,nr4,nr5,nr6]
                  refine wpAnyH_ready (rs := [10]) (by kernel_rfl) (by simp) ?_
                  refine AllReadyH.cons rfl (fun K hK => ?_) AllReadyH.nil
                  go_simp
                  refine (HE.out _).mono ?_; rintro e wn ⟨rfl,hbn⟩
                  go_wp2_with fail
                  refine hK.out _ _ ?_ (fun hHeld => ?_)
                  · exact curS_step hHeld hbn
                  clear hK K
                  try simp only [Act.put,nr1,nr2,nr3,nr4,nr5,nr6]
                  refine wpAnyH_ready (rs := [11]) (by kernel_rfl) (by simp) ?_
                  refine AllReadyH.cons rfl (fun K hK => ?_) AllReadyH.nil
                  go_simp
                  refine (HI2.out _).mono ?_; rintro e wm ⟨rfl,rfl⟩
                  go_wp2_with fail
                  refine hK.out _ _ ?_ (fun hHeld => ?_)
                  · exact hHeld
                  clear hK K
                  try simp only [Act.put,nr1,nr2,nr3,nr4,nr5,nr6]
                  refine tk (i := 12) (v := ?_) rfl hHeld (.inl ⟨by rfl,?_⟩) ?_
                  rotate_left
                  · intro wy hSw; (try dsimp only at hSw); go_simp; (try with_reducible rfl)
                  try simp only [Act.put,nr1,nr2,nr3,nr4,nr5,nr6]
                  refine tk (i := 13) (v := ?_) rfl hHeld (.inl ⟨by rfl,?_⟩) ?_
                  rotate_left
                  · intro wy hSw; (try dsimp only at hSw); go_simp; (try with_reducible rfl)
                  try simp only [Act.put,nr1,nr2,nr3,nr4,nr5,nr6]
                  refine tk (i := 14) (v := ?_) rfl hHeld (.inl ⟨by rfl,?_⟩) ?_
                  rotate_left
                  · intro wy hSw; (try dsimp only at hSw); go_simp; (try with_reducible rfl)
                  try simp only [Act.put,nr1,nr2,nr3,nr4,nr5,nr6]
                  refine tk (i := 15) (v := undef) rfl hHeld (.inr ⟨by rfl,rfl⟩) ?_
                  try simp only [Act.put,nr1,nr2,nr3,nr4,nr5,nr6]
                  refine tk (i := 16) (v := undef) rfl hHeld (.inr ⟨by rfl,rfl⟩) ?_
                  try simp only [Act.put,nr1,nr2,nr3,nr4,nr5,nr6]
                  refine tk (i := 17) (v := undef) rfl hHeld (.inr ⟨by rfl,rfl⟩) ?_
                  try simp only [Act.put,nr1,nr2,nr3,nr4,nr5,nr6]
                  refine tk (i := 18) (v := undef) rfl hHeld (.inr ⟨by rfl,rfl⟩) ?_
                  try simp only [Act.put,nr1,nr2,nr3,nr4,nr5,nr6]
                  refine tk (i := 19) (v := undef) rfl hHeld (.inr ⟨by rfl,rfl⟩) ?_
                  try simp only [Act.put,nr1,nr2,nr3,nr4,nr5,nr6]
                  refine tk (i := 20) (v := undef) rfl hHeld (.inr ⟨by rfl,rfl⟩) ?_
                  try simp only [Act.put,nr1,nr2,nr3,nr4,nr5,nr6]
                  refine tk (i := 21) (v := undef) rfl hHeld (.inr ⟨by rfl,rfl⟩) ?_
                  try simp only [Act.put,nr1,nr2,nr3,nr4,nr5,nr6]
                  refine tk (i := 22) (v := undef) rfl hHeld (.inr ⟨by rfl,rfl⟩) ?_
                  try simp only [Act.put,nr1,nr2,nr3,nr4,nr5,nr6]
                  refine tk (i := 23) (v := undef) rfl hHeld (.inr ⟨by rfl,rfl⟩) ?_
                  try simp only [Act.put,nr1,nr2,nr3,nr4,nr5,nr6]
                  refine tk (i := 24) (v := undef) rfl hHeld (.inr ⟨by rfl,rfl⟩) ?_
                  try simp only [Act.put,nr1,nr2,nr3,nr4,nr5,nr6]
                  refine tk (i := 25) (v := undef) rfl hHeld (.inr ⟨by rfl,rfl⟩) ?_
                  try simp only [Act.put,nr1,nr2,nr3,nr4,nr5,nr6]
                  refine tk (i := 26) (v := undef) rfl hHeld (.inr ⟨by rfl,rfl⟩) ?_
                  try simp only [Act.put,nr1,nr2,nr3,nr4,nr5,nr6]
                  refine tk (i := 27) (v := undef) rfl hHeld (.inr ⟨by rfl,rfl⟩) ?_
                  try simp only [Act.put,nr1,nr2,nr3,nr4,nr5,nr6]
                  refine tk (i := 28) (v := undef) rfl hHeld (.inr ⟨by rfl,rfl⟩) ?_
                  try simp only [Act.put,nr1,nr2,nr3,nr4,nr5,nr6]
                  refine tk (i := 29) (v := ?_) rfl hHeld (.inl ⟨by rfl,?_⟩) ?_
                  rotate_left
                  · intro wy hSw; (try dsimp only at hSw); go_simp; (try with_reducible rfl)
                  try simp only [Act.put,nr1,nr2,nr3,nr4,nr5,nr6]
                  refine wpAnyH_done (by kernel_rfl) ?_ _
                  go_wp2_with fail
                  go_meet
                  exact ⟨rfl,(cinv_step (cinv_drew HCI.out) hbn).1⟩
                case rest =>
                obtain ⟨rfl,HFIN⟩ := hcut
                clear HCI
                go_wp2
                go_ret
                exact ⟨ret_bool (by rw [hFA.out]; simp),HFIN.out.2⟩
            · rw [decide_eq_false x1] at HI1
              have hFA : Hid (cursOk first (first + (rl : Int)) none curs = false) := by
                have h := HCO.out.symm.trans hok.out
                show _ = _
                rw [← h,decide_eq_false x1]
                simp
              clear x1 HCO hg ha
              go_upto_region 12 with fail
              go_cut [91] (fun s91 wc => s91 = .bool true ∧ Hid (RInv w (ringObj cap first ra rl rc (some ⟨b,off,none⟩) cl cc) wc))
              case first =>
                refine wp_region_held_drew (S := (fun wx => (wx.cell? ⟨w.heap.size,0,none⟩ = some (.int .i64 cap) ∧ wx.cell? ⟨w.heap.size,1,none⟩ = some (.int .i64 first) ∧ wx.cell? ⟨w.heap.size,2,none⟩ = some (.slice ra rl rc) ∧ wx.cell? ⟨w.heap.size,3,none⟩ = some (.slice (some ⟨b,off,none⟩) cl cc)) ∧ (wx.cell? ⟨wr.heap.size,0,none⟩ = some (.int .i64 G) ∧ wx.cell? ⟨wr.heap.size,1,none⟩ = some (.int .i64 A) ∧ wx.cell? ⟨b,off,none⟩ = some (.int .i64 G)) ∧ Hid (CInv w (ringObj cap first ra rl rc (some ⟨b,off,none⟩) cl cc) wr.heap.size G A ⟨b,off,none⟩ G wx))) (by kernel_rfl) (curS_of (cinv_drew HCI.out)) (fun hHeld => ?_)
                refine tk (i := 0) (v := ?_) rfl hHeld (.inl ⟨by rfl,?_⟩) ?_
                rotate_left
                · intro wy hSw; (try dsimp only at hSw); go_simp; (try with_reducible rfl)
                try simp only [Act.put,nr1,nr2,nr3,nr4,nr5,nr6]
                refine tk (i := 1) (v := ?_) rfl hHeld (.inl ⟨by rfl,?_⟩) ?_
                rotate_left
                · intro wy hSw; (try dsimp only at hSw); go_simp; (try with_reducible rfl)
                try simp only [Act.put,nr1,nr2,nr3,nr4,nr5,nr6]
                refine wpAnyH_ready (rs := [2]) (by kernel_rfl) (by simp) ?_
                refine AllReadyH.cons rfl (fun K hK => ?_) AllReadyH.nil
                go_simp
                refine (HI1.out _).mono ?_; rintro e wn ⟨rfl,rfl⟩
                go_wp2_with fail
                refine hK.out _ _ ?_ (fun hHeld => ?_)
                · exact hHeld
                clear hK K
                try simp only [Act.put,nr1,nr2,nr3,nr4,nr5,nr6]
                refine tk (i := 3) (v := ?_) rfl hHeld (.inl ⟨by rfl,?_⟩) ?_
                rotate_left
                · intro wy hSw; (try dsimp only at hSw); go_simp; (try with_reducible rfl)
                try simp only [Act.put,nr1,nr2,nr3,nr4,nr5,nr6]
                refine tk (i := 4) (v := ?_) rfl hHeld (.inl ⟨by rfl,?_⟩) ?_
                rotate_left
                · intro wy hSw; (try dsimp only at hSw); go_simp; (try with_reducible rfl)
                try simp only [Act.put,nr1,nr2,nr3,nr4,nr5,nr6]
                refine tk (i := 5) (v := undef) rfl hHeld (.inr ⟨by rfl,rfl⟩) ?_
                try simp only [Act.put,nr1,nr2,nr3,nr4,nr5,nr6]
                refine tk (i := 6) (v := undef) rfl hHeld (.inr ⟨by rfl,rfl⟩) ?_
                try simp only [Act.put,nr1,nr2,nr3,nr4,nr5,nr6]
                refine tk (i := 7) (v := undef) rfl hHeld (.inr ⟨by rfl,rfl⟩) ?_
                try simp only [Act.put,nr1,nr2,nr3,nr4,nr5,nr6]
                refine tk (i := 8) (v := undef) rfl hHeld (.inr ⟨by rfl,rfl⟩) ?_
                try simp only [Act.put,nr1,nr2,nr3,nr4,nr5,nr6]
                refine tk (i := 9) (v := undef) rfl hHeld (.inr ⟨by rfl,rfl⟩) ?_
                try simp only [Act.put,nr1,nr2,nr3,nr4,nr5,nr6]
                refine tk (i := 10) (v := undef) rfl hHeld (.inr ⟨by rfl,rfl⟩) ?_
                try simp only [Act.put,nr1,nr2,nr3,nr4,nr5,nr6]
                refine tk (i := 11) (v := undef) rfl hHeld (.inr ⟨by rfl,rfl⟩) ?_
                try simp only [Act.put,nr1,nr2,nr3,nr4,nr5,nr6]
                refine tk (i := 12) (v := undef) rfl hHeld (.inr ⟨by rfl,rfl⟩) ?_
                try simp only [Act.put,nr1,nr2,nr3,nr4,nr5,nr6]
                refine tk (i := 13) (v := ?_) rfl hHeld (.inl ⟨by rfl,?_⟩) ?_
                rotate_left
                · intro wy hSw; (try dsimp only at hSw); go_simp; (try with_reducible rfl)
                try simp only [Act.put,nr1,nr2,nr3,nr4,nr5,nr6]
                refine tk (i := 14) (v := ?_) rfl hHeld (.inl ⟨by rfl,?_⟩) ?_
                rotate_left
                · intro wy hSw; (try dsimp only at hSw); go_simp; (try with_reducible rfl)
                try simp only [Act.put,nr1,nr2,nr3,nr4,nr5,nr6]
                refine tk (i := 15) (v := undef) rfl hHeld (.inr ⟨by rfl,rfl⟩) ?_
                try simp only [Act.put,nr1,nr2,nr3,nr4,nr5,nr6]
                refine tk (i := 16) (v := undef) rfl hHeld (.inr ⟨by rfl,rfl⟩) ?_
                try simp only [Act.put,nr1,nr2,nr3,nr4,nr5,nr6]
                refine tk (i := 17) (v := undef) rfl hHeld (.inr ⟨by rfl,rfl⟩) ?_
                try simp only [Act.put,nr1,nr2,nr3,nr4,nr5,nr6]
                refine tk (i := 18) (v := undef) rfl hHeld (.inr ⟨by rfl,rfl⟩) ?_
                try simp only [Act.put,nr1,nr2,nr3,nr4,nr5,nr6]
                refine tk (i := 19) (v := undef) rfl hHeld (.inr ⟨by rfl,rfl⟩) ?_
                try simp only [Act.put,nr1,nr2,nr3,nr4,nr5,nr6]
                refine tk (i := 20) (v := undef) rfl hHeld (.inr ⟨by rfl,rfl⟩) ?_
                try simp only [Act.put,nr1,nr2,nr3,nr4,nr5,nr6]
                refine tk (i := 21) (v := undef) rfl hHeld (.inr ⟨by rfl,rfl⟩) ?_
                try simp only [Act.put,nr1,nr2,nr3,nr4,nr5,nr6]
                refine tk (i := 22) (v := undef) rfl hHeld (.inr ⟨by rfl,rfl⟩) ?_
                try simp only [Act.put,nr1,nr2,nr3,nr4,nr5,nr6]
                refine tk (i := 23) (v := undef) rfl hHeld (.inr ⟨by rfl,rfl⟩) ?_
                try simp only [Act.put,nr1,nr2,nr3,nr4,nr5,nr6]
                refine tk (i := 24) (v := undef) rfl hHeld (.inr ⟨by rfl,rfl⟩) ?_
                try simp only [Act.put,nr1,nr2,nr3,nr4,nr5,nr6]
                refine tk (i := 25) (v := undef) rfl hHeld (.inr ⟨by rfl,rfl⟩) ?_
                try simp only [Act.put,nr1,nr2,nr3,nr4,nr5,nr6]
                refine tk (i := 26) (v := undef) rfl hHeld (.inr ⟨by rfl,rfl⟩) ?_
                try simp only [Act.put,nr1,nr2,nr3,nr4,nr5,nr6]
                refine tk (i := 27) (v := undef) rfl hHeld (.inr ⟨by rfl,rfl⟩) ?_
                try simp only [Act.put,nr1,nr2,nr3,nr4,nr5,nr6]
                refine tk (i := 28) (v := undef) rfl hHeld (.inr ⟨by rfl,rfl⟩) ?_
                try simp only [Act.put,nr1,nr2,nr3,nr4,nr5,nr6]
                refine tk (i := 29) (v := ?_) rfl hHeld (.inl ⟨by rfl,?_⟩) ?_
                rotate_left
                · intro wy hSw; (try dsimp only at hSw); go_simp; (try with_reducible rfl)
                try simp only [Act.put,nr1,nr2,nr3,nr4,nr5,nr6]
                refine wpAnyH_done (by kernel_rfl) ?_ _
                go_wp2_with fail
                go_meet
                exact ⟨rfl,(cinv_drew HCI.out).1⟩
              case rest =>
              obtain ⟨rfl,HFIN⟩ := hcut
              clear HCI
              go_wp2
              go_ret
              exact ⟨ret_bool (by rw [hFA.out]; simp),HFIN.out.2⟩
          | succ j =>
            have hji : j < curs.length := by omega
            obtain ⟨b',off',e,hpv,_⟩ := (curs_below HU0.out hbel.out).2 j hji
            obtain ⟨rfl,rfl⟩ : b = b' ∧ off = off' := by simp at e; omega
            obtain ⟨Gp,hGp⟩ : ∃ Gp,curs[j].1 = Gp := ⟨_,rfl⟩
            rw [hGp] at hpv
            have hpg : prevG curs (j + 1) = some Gp := by rw [prevG_succ hji,hGp]
            rw [hpg] at HCO
            have hbz : b < wr.heap.size := World.block_lt_of_cell? wr ⟨b,off + j * 2,none⟩ hpv
            have HCI : Hid (CInv w (ringObj cap first ra rl rc (some ⟨b,off,none⟩) cl cc) wr.heap.size G A ⟨b,off + j * 2,none⟩ Gp (wr.alloc (curObj G A))) :=
              ⟨rinv_step HI.out ((Below.refl _ _).alloc (Nat.le_refl _) _),heap_alloc_new wr _,by rw [World.cell?_alloc_lt _ _ _ hbz]; exact hpv⟩
            have HOK : Hid _ := hok.out
            rw [hpg] at HOK
            clear hok e hGp hpg
            have hok : Hid _ := HOK.out
            have hjI : (j : Int) < (cl : Int) := by omega
            have hj0 : (0 : Int) ≤ (j : Int) := by omega
            have hwj : IntKind.i64.wrap (j : Int) = (j : Int) := i64_wrap_in _ (by omega) (by omega)
            by_cases x1 : 1 ≤ G ∧ G ≤ 9
            · rw [decide_eq_true x1] at HI1
              by_cases x2 : first ≤ A ∧ A ≤ first + (rl : Int)
              · rw [decide_eq_true x2] at HI2
                by_cases x3 : Gp < G
                · have HNX : Hid (cursOk first (first + (rl : Int)) (prevG curs (j + 1 + 1)) (curs.drop (j + 1 + 1)) = cursOk first (first + (rl : Int)) none curs) := by
                    have h := HCO.out.symm.trans hok.out
                    rw [decide_eq_true x1,decide_eq_true x2] at h
                    show _ = _
                    rw [← h]
                    simp [x3]
                  clear x1 x2 HCO
                  go_upto_region 12 with fail
                  go_cut [91] (fun s91 wc => s91 = .bool false ∧ Hid (RInv w (ringObj cap first ra rl rc (some ⟨b,off,none⟩) cl cc) wc))
                  case first =>
                    refine wp_region_held_drew (S := (fun wx => (wx.cell? ⟨w.heap.size,0,none⟩ = some (.int .i64 cap) ∧ wx.cell? ⟨w.heap.size,1,none⟩ = some (.int .i64 first) ∧ wx.cell? ⟨w.heap.size,2,none⟩ = some (.slice ra rl rc) ∧ wx.cell? ⟨w.heap.size,3,none⟩ = some (.slice (some ⟨b,off,none⟩) cl cc)) ∧ (wx.cell? ⟨wr.heap.size,0,none⟩ = some (.int .i64 G) ∧ wx.cell? ⟨wr.heap.size,1,none⟩ = some (.int .i64 A) ∧ wx.cell? ⟨b,off + j * 2,none⟩ = some (.int .i64 Gp)) ∧ Hid (CInv w (ringObj cap first ra rl rc (some ⟨b,off,none⟩) cl cc) wr.heap.size G A ⟨b,off + j * 2,none⟩ Gp wx))) (by kernel_rfl) (curS_of (cinv_drew HCI.out)) (fun hHeld => ?_)
                    refine tk (i := 0) (v := ?_) rfl hHeld (.inl ⟨by rfl,?_⟩) ?_
                    rotate_left
                    · intro wy hSw; (try dsimp only at hSw); go_simp; (try with_reducible rfl)
                    try simp only [Act.put,nr1,nr2,nr3,nr4,nr5,nr6]
                    refine tk (i := 1) (v := ?_) rfl hHeld (.inl ⟨by rfl,?_⟩) ?_
                    rotate_left
                    · intro wy hSw; (try dsimp only at hSw); go_simp; (try with_reducible rfl)
                    try simp only [Act.put,nr1,nr2,nr3,nr4,nr5,nr6]
                    refine wpAnyH_ready (rs := [2]) (by kernel_rfl) (by simp) ?_
                    refine AllReadyH.cons rfl (fun K hK => ?_) AllReadyH.nil
                    go_simp
                    refine (HI1.out _).mono ?_; rintro e wn ⟨rfl,rfl⟩
                    go_wp2_with fail
                    refine hK.out _ _ ?_ (fun hHeld => ?_)
                    · exact hHeld
                    clear hK K
                    try simp only [Act.put,nr1,nr2,nr3,nr4,nr5,nr6]
                    refine tk (i := 3) (v := ?_) rfl hHeld (.inl ⟨by rfl,?_⟩) ?_
                    rotate_left
                    · intro wy hSw; (try dsimp only at hSw); go_simp; (try with_reducible rfl)
                    try simp only [Act.put,nr1,nr2,nr3,nr4,nr5,nr6]
                    refine tk (i := 4) (v := ?_) rfl hHeld (.inl ⟨by rfl,?_⟩) ?_
                    rotate_left
                    · intro wy hSw; (try dsimp only at hSw); go_simp; (try with_reducible rfl)
                    try simp only [Act.put,nr1,nr2,nr3,nr4,nr5,nr6]
                    refine tk (i := 5) (v := ?_) rfl hHeld (.inl ⟨by rfl,?_⟩) ?_
                    rotate_left
                    · intro wy hSw; (try dsimp only at hSw); go_simp; (try with_reducible rfl)
                    try simp only [Act.put,nr1,nr2,nr3,nr4,nr5,nr6]
                    refine tk (i := 6) (v := ?_) rfl hHeld (.inl ⟨by rfl,?_⟩) ?_
                    rotate_left
                    · intro wy hSw; (try dsimp only at hSw); go_simp; (try with_reducible rfl)
                    try simp only [Act.put,nr1,nr2,nr3,nr4,nr5,nr6]
                    refine tk (i := 7) (v := ?_) rfl hHeld (.inl ⟨by rfl,?_⟩) ?_
                    rotate_left
                    · intro wy hSw; (try dsimp only at hSw); go_simp; (try with_reducible rfl)
                    try simp only [Act.put,nr1,nr2,nr3,nr4,nr5,nr6]
                    refine tk (i := 8) (v := ?_) rfl hHeld (.inl ⟨by rfl,?_⟩) ?_
                    rotate_left
                    · intro wy hSw; (try dsimp only at hSw); go_simp; (try with_reducible rfl)
                    try simp only [Act.put,nr1,nr2,nr3,nr4,nr5,nr6]
                    refine tk (i := 9) (v := ?_) rfl hHeld (.inl ⟨by rfl,?_⟩) ?_
                    rotate_left
                    · intro wy hSw; (try dsimp only at hSw); go_simp; (try with_reducible rfl)
                    try simp only [Act.put,nr1,nr2,nr3,nr4,nr5,nr6]
                    refine wpAnyH_ready (rs := [10]) (by kernel_rfl) (by simp) ?_
                    refine AllReadyH.cons rfl (fun K hK => ?_) AllReadyH.nil
                    go_simp
                    refine (HE.out _).mono ?_; rintro e wn ⟨rfl,hbn⟩
                    go_wp2_with fail
                    refine hK.out _ _ ?_ (fun hHeld => ?_)
                    · exact curS_step hHeld hbn
                    clear hK K
                    try simp only [Act.put,nr1,nr2,nr3,nr4,nr5,nr6]
                    refine wpAnyH_ready (rs := [11]) (by kernel_rfl) (by simp) ?_
                    refine AllReadyH.cons rfl (fun K hK => ?_) AllReadyH.nil
                    go_simp
                    refine (HI2.out _).mono ?_; rintro e wm ⟨rfl,rfl⟩
                    go_wp2_with fail
                    refine hK.out _ _ ?_ (fun hHeld => ?_)
                    · exact hHeld
                    clear hK K
                    try simp only [Act.put,nr1,nr2,nr3,nr4,nr5,nr6]
                    refine tk (i := 12) (v := ?_) rfl hHeld (.inl ⟨by rfl,?_⟩) ?_
                    rotate_left
                    · intro wy hSw; (try dsimp only at hSw); go_simp; (try with_reducible rfl)
                    try simp only [Act.put,nr1,nr2,nr3,nr4,nr5,nr6]
                    refine tk (i := 13) (v := ?_) rfl hHeld (.inl ⟨by rfl,?_⟩) ?_
                    rotate_left
                    · intro wy hSw; (try dsimp only at hSw); go_simp; (try with_reducible rfl)
                    try simp only [Act.put,nr1,nr2,nr3,nr4,nr5,nr6]
                    refine tk (i := 14) (v := ?_) rfl hHeld (.inl ⟨by rfl,?_⟩) ?_
                    rotate_left
                    · intro wy hSw; (try dsimp only at hSw); go_simp; (try with_reducible rfl)
                    try simp only [Act.put,nr1,nr2,nr3,nr4,nr5,nr6]
                    refine tk (i := 15) (v := ?_) rfl hHeld (.inl ⟨by rfl,?_⟩) ?_
                    rotate_left
                    · intro wy hSw; (try dsimp only at hSw); go_simp; (try with_reducible rfl)
                    try simp only [Act.put,nr1,nr2,nr3,nr4,nr5,nr6]
                    refine tk (i := 16) (v := ?_) rfl hHeld (.inl ⟨by rfl,?_⟩) ?_
                    rotate_left
                    · intro wy hSw; (try dsimp only at hSw); go_simp; (try with_reducible rfl)
                    try simp only [Act.put,nr1,nr2,nr3,nr4,nr5,nr6]
                    refine tk (i := 17) (v := ?_) rfl hHeld (.inl ⟨by rfl,?_⟩) ?_
                    rotate_left
                    · intro wy hSw; (try dsimp only at hSw); go_simp; (try with_reducible rfl)
                    try simp only [Act.put,nr1,nr2,nr3,nr4,nr5,nr6]
                    refine tk (i := 18) (v := ?_) rfl hHeld (.inl ⟨by rfl,?_⟩) ?_
                    rotate_left
                    · intro wy hSw; (try dsimp only at hSw); go_simp; (try with_reducible rfl)
                    try simp only [Act.put,nr1,nr2,nr3,nr4,nr5,nr6]
                    refine tk (i := 19) (v := ?_) rfl hHeld (.inl ⟨by rfl,?_⟩) ?_
                    rotate_left
                    · intro wy hSw; (try dsimp only at hSw); go_simp; (try with_reducible rfl)
                    try simp only [Act.put,nr1,nr2,nr3,nr4,nr5,nr6]
                    refine tk (i := 20) (v := ?_) rfl hHeld (.inl ⟨by rfl,?_⟩) ?_
                    rotate_left
                    · intro wy hSw; (try dsimp only at hSw); go_simp; (try with_reducible rfl)
                    try simp only [Act.put,nr1,nr2,nr3,nr4,nr5,nr6]
                    refine tk (i := 21) (v := ?_) rfl hHeld (.inl ⟨by rfl,?_⟩) ?_
                    rotate_left
                    · intro wy hSw; (try dsimp only at hSw); go_simp; (try with_reducible rfl)
                    try simp only [Act.put,nr1,nr2,nr3,nr4,nr5,nr6]
                    refine tk (i := 22) (v := ?_) rfl hHeld (.inl ⟨by rfl,?_⟩) ?_
                    rotate_left
                    · intro wy hSw; (try dsimp only at hSw); go_simp; (try with_reducible rfl)
                    try simp only [Act.put,nr1,nr2,nr3,nr4,nr5,nr6]
                    refine tk (i := 23) (v := ?_) rfl hHeld (.inl ⟨by rfl,?_⟩) ?_
                    rotate_left
                    · intro wy hSw; (try dsimp only at hSw); go_simp; (try with_reducible rfl)
                    try simp only [Act.put,nr1,nr2,nr3,nr4,nr5,nr6]
                    refine tk (i := 24) (v := ?_) rfl hHeld (.inl ⟨by rfl,?_⟩) ?_
                    rotate_left
                    · intro wy hSw; (try dsimp only at hSw); go_simp; (try with_reducible rfl)
                    try simp only [Act.put,nr1,nr2,nr3,nr4,nr5,nr6]
                    refine tk (i := 25) (v := ?_) rfl hHeld (.inl ⟨by rfl,?_⟩) ?_
                    rotate_left
                    · intro wy hSw; (try dsimp only at hSw); go_simp; (try with_reducible rfl)
                    try simp only [Act.put,nr1,nr2,nr3,nr4,nr5,nr6]
                    refine tk (i := 26) (v := ?_) rfl hHeld (.inl ⟨by rfl,?_⟩) ?_
                    rotate_left
                    · intro wy hSw; (try dsimp only at hSw); go_simp; (try with_reducible rfl)
                    try simp only [Act.put,nr1,nr2,nr3,nr4,nr5,nr6]
                    refine tk (i := 27) (v := ?_) rfl hHeld (.inl ⟨by rfl,?_⟩) ?_
                    rotate_left
                    · intro wy hSw; (try dsimp only at hSw); go_simp; (try with_reducible rfl)
                    try simp only [Act.put,nr1,nr2,nr3,nr4,nr5,nr6]
                    refine tk (i := 28) (v := ?_) rfl hHeld (.inl ⟨by rfl,?_⟩) ?_
                    rotate_left
                    · intro wy hSw; (try dsimp only at hSw); go_simp; (try with_reducible rfl)
                    try simp only [Act.put,nr1,nr2,nr3,nr4,nr5,nr6]
                    refine tk (i := 29) (v := ?_) rfl hHeld (.inl ⟨by rfl,?_⟩) ?_
                    rotate_left
                    · intro wy hSw; (try dsimp only at hSw); go_simp; (try with_reducible rfl)
                    try simp only [Act.put,nr1,nr2,nr3,nr4,nr5,nr6]
                    refine wpAnyH_done (by kernel_rfl) ?_ _
                    go_wp2_with fail
                    go_meet
                    exact ⟨congrArg Value.bool (decide_eq_false (by omega)),(cinv_step (cinv_drew HCI.out) hbn).1⟩
                  case rest =>
                  obtain ⟨rfl,HFIN⟩ := hcut
                  clear HCI
                  go_wp2
                  go_roundw
                  case rel => exact ⟨j + 1 + 1,by omega,by go_num,HFIN.out.1,HFIN.out.2,HNX⟩
                  case measure => simp [intOf]; omega
                · have x3' : G ≤ Gp := by omega
                  have hFA : Hid (cursOk first (first + (rl : Int)) none curs = false) := by
                    have h := HCO.out.symm.trans hok.out
                    show _ = _
                    rw [← h]
                    simp [x3]
                  clear x1 x2 x3 HCO
                  go_upto_region 12 with fail
                  go_cut [91] (fun s91 wc => s91 = .bool true ∧ Hid (RInv w (ringObj cap first ra rl rc (some ⟨b,off,none⟩) cl cc) wc))
                  case first =>
                    refine wp_region_held_drew (S := (fun wx => (wx.cell? ⟨w.heap.size,0,none⟩ = some (.int .i64 cap) ∧ wx.cell? ⟨w.heap.size,1,none⟩ = some (.int .i64 first) ∧ wx.cell? ⟨w.heap.size,2,none⟩ = some (.slice ra rl rc) ∧ wx.cell? ⟨w.heap.size,3,none⟩ = some (.slice (some ⟨b,off,none⟩) cl cc)) ∧ (wx.cell? ⟨wr.heap.size,0,none⟩ = some (.int .i64 G) ∧ wx.cell? ⟨wr.heap.size,1,none⟩ = some (.int .i64 A) ∧ wx.cell? ⟨b,off + j * 2,none⟩ = some (.int .i64 Gp)) ∧ Hid (CInv w (ringObj cap first ra rl rc (some ⟨b,off,none⟩) cl cc) wr.heap.size G A ⟨b,off + j * 2,none⟩ Gp wx))) (by kernel_rfl) (curS_of (cinv_drew HCI.out)) (fun hHeld => ?_)
                    refine tk (i := 0) (v := ?_) rfl hHeld (.inl ⟨by rfl,?_⟩) ?_
                    rotate_left
                    · intro wy hSw; (try dsimp only at hSw); go_simp; (try with_reducible rfl)
                    try simp only [Act.put,nr1,nr2,nr3,nr4,nr5,nr6]
                    refine tk (i := 1) (v := ?_) rfl hHeld (.inl ⟨by rfl,?_⟩) ?_
                    rotate_left
                    · intro wy hSw; (try dsimp only at hSw); go_simp; (try with_reducible rfl)
                    try simp only [Act.put,nr1,nr2,nr3,nr4,nr5,nr6]
                    refine wpAnyH_ready (rs := [2]) (by kernel_rfl) (by simp) ?_
                    refine AllReadyH.cons rfl (fun K hK => ?_) AllReadyH.nil
                    go_simp
                    refine (HI1.out _).mono ?_; rintro e wn ⟨rfl,rfl⟩
                    go_wp2_with fail
                    refine hK.out _ _ ?_ (fun hHeld => ?_)
                    · exact hHeld
                    clear hK K
                    try simp only [Act.put,nr1,nr2,nr3,nr4,nr5,nr6]
                    refine tk (i := 3) (v := ?_) rfl hHeld (.inl ⟨by rfl,?_⟩) ?_
                    rotate_left
                    · intro wy hSw; (try dsimp only at hSw); go_simp; (try with_reducible rfl)
                    try simp only [Act.put,nr1,nr2,nr3,nr4,nr5,nr6]
                    refine tk (i := 4) (v := ?_) rfl hHeld (.inl ⟨by rfl,?_⟩) ?_
                    rotate_left
                    · intro wy hSw; (try dsimp only at hSw); go_simp; (try with_reducible rfl)
                    try simp only [Act.put,nr1,nr2,nr3,nr4,nr5,nr6]
                    refine tk (i := 5) (v := ?_) rfl hHeld (.inl ⟨by rfl,?_⟩) ?_
                    rotate_left
                    · intro wy hSw; (try dsimp only at hSw); go_simp; (try with_reducible rfl)
                    try simp only [Act.put,nr1,nr2,nr3,nr4,nr5,nr6]
                    refine tk (i := 6) (v := ?_) rfl hHeld (.inl ⟨by rfl,?_⟩) ?_
                    rotate_left
                    · intro wy hSw; (try dsimp only at hSw); go_simp; (try with_reducible rfl)
                    try simp only [Act.put,nr1,nr2,nr3,nr4,nr5,nr6]
                    refine tk (i := 7) (v := ?_) rfl hHeld (.inl ⟨by rfl,?_⟩) ?_
                    rotate_left
                    · intro wy hSw; (try dsimp only at hSw); go_simp; (try with_reducible rfl)
                    try simp only [Act.put,nr1,nr2,nr3,nr4,nr5,nr6]
                    refine tk (i := 8) (v := ?_) rfl hHeld (.inl ⟨by rfl,?_⟩) ?_
                    rotate_left
                    · intro wy hSw; (try dsimp only at hSw); go_simp; (try with_reducible rfl)
                    try simp only [Act.put,nr1,nr2,nr3,nr4,nr5,nr6]
                    refine tk (i := 9) (v := ?_) rfl hHeld (.inl ⟨by rfl,?_⟩) ?_
                    rotate_left
                    · intro wy hSw; (try dsimp only at hSw); go_simp; (try with_reducible rfl)
                    try simp only [Act.put,nr1,nr2,nr3,nr4,nr5,nr6]
                    refine wpAnyH_ready (rs := [10]) (by kernel_rfl) (by simp) ?_
                    refine AllReadyH.cons rfl (fun K hK => ?_) AllReadyH.nil
                    go_simp
                    refine (HE.out _).mono ?_; rintro e wn ⟨rfl,hbn⟩
                    go_wp2_with fail
                    refine hK.out _ _ ?_ (fun hHeld => ?_)
                    · exact curS_step hHeld hbn
                    clear hK K
                    try simp only [Act.put,nr1,nr2,nr3,nr4,nr5,nr6]
                    refine wpAnyH_ready (rs := [11]) (by kernel_rfl) (by simp) ?_
                    refine AllReadyH.cons rfl (fun K hK => ?_) AllReadyH.nil
                    go_simp
                    refine (HI2.out _).mono ?_; rintro e wm ⟨rfl,rfl⟩
                    go_wp2_with fail
                    refine hK.out _ _ ?_ (fun hHeld => ?_)
                    · exact hHeld
                    clear hK K
                    try simp only [Act.put,nr1,nr2,nr3,nr4,nr5,nr6]
                    refine tk (i := 12) (v := ?_) rfl hHeld (.inl ⟨by rfl,?_⟩) ?_
                    rotate_left
                    · intro wy hSw; (try dsimp only at hSw); go_simp; (try with_reducible rfl)
                    try simp only [Act.put,nr1,nr2,nr3,nr4,nr5,nr6]
                    refine tk (i := 13) (v := ?_) rfl hHeld (.inl ⟨by rfl,?_⟩) ?_
                    rotate_left
                    · intro wy hSw; (try dsimp only at hSw); go_simp; (try with_reducible rfl)
                    try simp only [Act.put,nr1,nr2,nr3,nr4,nr5,nr6]
                    refine tk (i := 14) (v := ?_) rfl hHeld (.inl ⟨by rfl,?_⟩) ?_
                    rotate_left
                    · intro wy hSw; (try dsimp only at hSw); go_simp; (try with_reducible rfl)
                    try simp only [Act.put,nr1,nr2,nr3,nr4,nr5,nr6]
                    refine tk (i := 15) (v := ?_) rfl hHeld (.inl ⟨by rfl,?_⟩) ?_
                    rotate_left
                    · intro wy hSw; (try dsimp only at hSw); go_simp; (try with_reducible rfl)
                    try simp only [Act.put,nr1,nr2,nr3,nr4,nr5,nr6]
                    refine tk (i := 16) (v := ?_) rfl hHeld (.inl ⟨by rfl,?_⟩) ?_
                    rotate_left
                    · intro wy hSw; (try dsimp only at hSw); go_simp; (try with_reducible rfl)
                    try simp only [Act.put,nr1,nr2,nr3,nr4,nr5,nr6]
                    refine tk (i := 17) (v := ?_) rfl hHeld (.inl ⟨by rfl,?_⟩) ?_
                    rotate_left
                    · intro wy hSw; (try dsimp only at hSw); go_simp; (try with_reducible rfl)
                    try simp only [Act.put,nr1,nr2,nr3,nr4,nr5,nr6]
                    refine tk (i := 18) (v := ?_) rfl hHeld (.inl ⟨by rfl,?_⟩) ?_
                    rotate_left
                    · intro wy hSw; (try dsimp only at hSw); go_simp; (try with_reducible rfl)
                    try simp only [Act.put,nr1,nr2,nr3,nr4,nr5,nr6]
                    refine tk (i := 19) (v := ?_) rfl hHeld (.inl ⟨by rfl,?_⟩) ?_
                    rotate_left
                    · intro wy hSw; (try dsimp only at hSw); go_simp; (try with_reducible rfl)
                    try simp only [Act.put,nr1,nr2,nr3,nr4,nr5,nr6]
                    refine tk (i := 20) (v := ?_) rfl hHeld (.inl ⟨by rfl,?_⟩) ?_
                    rotate_left
                    · intro wy hSw; (try dsimp only at hSw); go_simp; (try with_reducible rfl)
                    try simp only [Act.put,nr1,nr2,nr3,nr4,nr5,nr6]
                    refine tk (i := 21) (v := ?_) rfl hHeld (.inl ⟨by rfl,?_⟩) ?_
                    rotate_left
                    · intro wy hSw; (try dsimp only at hSw); go_simp; (try with_reducible rfl)
                    try simp only [Act.put,nr1,nr2,nr3,nr4,nr5,nr6]
                    refine tk (i := 22) (v := ?_) rfl hHeld (.inl ⟨by rfl,?_⟩) ?_
                    rotate_left
                    · intro wy hSw; (try dsimp only at hSw); go_simp; (try with_reducible rfl)
                    try simp only [Act.put,nr1,nr2,nr3,nr4,nr5,nr6]
                    refine tk (i := 23) (v := ?_) rfl hHeld (.inl ⟨by rfl,?_⟩) ?_
                    rotate_left
                    · intro wy hSw; (try dsimp only at hSw); go_simp; (try with_reducible rfl)
                    try simp only [Act.put,nr1,nr2,nr3,nr4,nr5,nr6]
                    refine tk (i := 24) (v := ?_) rfl hHeld (.inl ⟨by rfl,?_⟩) ?_
                    rotate_left
                    · intro wy hSw; (try dsimp only at hSw); go_simp; (try with_reducible rfl)
                    try simp only [Act.put,nr1,nr2,nr3,nr4,nr5,nr6]
                    refine tk (i := 25) (v := ?_) rfl hHeld (.inl ⟨by rfl,?_⟩) ?_
                    rotate_left
                    · intro wy hSw; (try dsimp only at hSw); go_simp; (try with_reducible rfl)
                    try simp only [Act.put,nr1,nr2,nr3,nr4,nr5,nr6]
                    refine tk (i := 26) (v := ?_) rfl hHeld (.inl ⟨by rfl,?_⟩) ?_
                    rotate_left
                    · intro wy hSw; (try dsimp only at hSw); go_simp; (try with_reducible rfl)
                    try simp only [Act.put,nr1,nr2,nr3,nr4,nr5,nr6]
                    refine tk (i := 27) (v := ?_) rfl hHeld (.inl ⟨by rfl,?_⟩) ?_
                    rotate_left
                    · intro wy hSw; (try dsimp only at hSw); go_simp; (try with_reducible rfl)
                    try simp only [Act.put,nr1,nr2,nr3,nr4,nr5,nr6]
                    refine tk (i := 28) (v := ?_) rfl hHeld (.inl ⟨by rfl,?_⟩) ?_
                    rotate_left
                    · intro wy hSw; (try dsimp only at hSw); go_simp; (try with_reducible rfl)
                    try simp only [Act.put,nr1,nr2,nr3,nr4,nr5,nr6]
                    refine tk (i := 29) (v := ?_) rfl hHeld (.inl ⟨by rfl,?_⟩) ?_
                    rotate_left
                    · intro wy hSw; (try dsimp only at hSw); go_simp; (try with_reducible rfl)
                    try simp only [Act.put,nr1,nr2,nr3,nr4,nr5,nr6]
                    refine wpAnyH_done (by kernel_rfl) ?_ _
                    go_wp2_with fail
                    go_meet
                    exact ⟨rfl,(cinv_step (cinv_drew HCI.out) hbn).1⟩
                  case rest =>
                  obtain ⟨rfl,HFIN⟩ := hcut
                  clear HCI
                  go_wp2
                  go_ret
                  exact ⟨ret_bool (by rw [hFA.out]; simp),HFIN.out.2⟩
              · rw [decide_eq_false x2] at HI2
                have hFA : Hid (cursOk first (first + (rl : Int)) none curs = false) := by
                  have h := HCO.out.symm.trans hok.out
                  show _ = _
                  rw [← h,decide_eq_false x2]
                  simp
                clear x1 x2 HCO
                go_upto_region 12 with fail
                go_cut [91] (fun s91 wc => s91 = .bool true ∧ Hid (RInv w (ringObj cap first ra rl rc (some ⟨b,off,none⟩) cl cc) wc))
                case first =>
                  refine wp_region_held_drew (S := (fun wx => (wx.cell? ⟨w.heap.size,0,none⟩ = some (.int .i64 cap) ∧ wx.cell? ⟨w.heap.size,1,none⟩ = some (.int .i64 first) ∧ wx.cell? ⟨w.heap.size,2,none⟩ = some (.slice ra rl rc) ∧ wx.cell? ⟨w.heap.size,3,none⟩ = some (.slice (some ⟨b,off,none⟩) cl cc)) ∧ (wx.cell? ⟨wr.heap.size,0,none⟩ = some (.int .i64 G) ∧ wx.cell? ⟨wr.heap.size,1,none⟩ = some (.int .i64 A) ∧ wx.cell? ⟨b,off + j * 2,none⟩ = some (.int .i64 Gp)) ∧ Hid (CInv w (ringObj cap first ra rl rc (some ⟨b,off,none⟩) cl cc) wr.heap.size G A ⟨b,off + j * 2,none⟩ Gp wx))) (by kernel_rfl) (curS_of (cinv_drew HCI.out)) (fun hHeld => ?_)
                  refine tk (i := 0) (v := ?_) rfl hHeld (.inl ⟨by rfl,?_⟩) ?_
                  rotate_left
                  · intro wy hSw; (try dsimp only at hSw); go_simp; (try with_reducible rfl)
                  try simp only [Act.put,nr1,nr2,nr3,nr4,nr5,nr6]
                  refine tk (i := 1) (v := ?_) rfl hHeld (.inl ⟨by rfl,?_⟩) ?_
                  rotate_left
                  · intro wy hSw; (try dsimp only at hSw); go_simp; (try with_reducible rfl)
                  try simp only [Act.put,nr1,nr2,nr3,nr4,nr5,nr6]
                  refine wpAnyH_ready (rs := [2]) (by kernel_rfl) (by simp) ?_
                  refine AllReadyH.cons rfl (fun K hK => ?_) AllReadyH.nil
                  go_simp
                  refine (HI1.out _).mono ?_; rintro e wn ⟨rfl,rfl⟩
                  go_wp2_with fail
                  refine hK.out _ _ ?_ (fun hHeld => ?_)
                  · exact hHeld
                  clear hK K
                  try simp only [Act.put,nr1,nr2,nr3,nr4,nr5,nr6]
                  refine tk (i := 3) (v := ?_) rfl hHeld (.inl ⟨by rfl,?_⟩) ?_
                  rotate_left
                  · intro wy hSw; (try dsimp only at hSw); go_simp; (try with_reducible rfl)
                  try simp only [Act.put,nr1,nr2,nr3,nr4,nr5,nr6]
                  refine tk (i := 4) (v := ?_) rfl hHeld (.inl ⟨by rfl,?_⟩) ?_
                  rotate_left
                  · intro wy hSw; (try dsimp only at hSw); go_simp; (try with_reducible rfl)
                  try simp only [Act.put,nr1,nr2,nr3,nr4,nr5,nr6]
                  refine tk (i := 5) (v := ?_) rfl hHeld (.inl ⟨by rfl,?_⟩) ?_
                  rotate_left
                  · intro wy hSw; (try dsimp only at hSw); go_simp; (try with_reducible rfl)
                  try simp only [Act.put,nr1,nr2,nr3,nr4,nr5,nr6]
                  refine tk (i := 6) (v := ?_) rfl hHeld (.inl ⟨by rfl,?_⟩) ?_
                  rotate_left
                  · intro wy hSw; (try dsimp only at hSw); go_simp; (try with_reducible rfl)
                  try simp only [Act.put,nr1,nr2,nr3,nr4,nr5,nr6]
                  refine tk (i := 7) (v := ?_) rfl hHeld (.inl ⟨by rfl,?_⟩) ?_
                  rotate_left
                  · intro wy hSw; (try dsimp only at hSw); go_simp; (try with_reducible rfl)
                  try simp only [Act.put,nr1,nr2,nr3,nr4,nr5,nr6]
                  refine tk (i := 8) (v := ?_) rfl hHeld (.inl ⟨by rfl,?_⟩) ?_
                  rotate_left
                  · intro wy hSw; (try dsimp only at hSw); go_simp; (try with_reducible rfl)
                  try simp only [Act.put,nr1,nr2,nr3,nr4,nr5,nr6]
                  refine tk (i := 9) (v := ?_) rfl hHeld (.inl ⟨by rfl,?_⟩) ?_
                  rotate_left
                  · intro wy hSw; (try dsimp only at hSw); go_simp; (try with_reducible rfl)
                  try simp only [Act.put,nr1,nr2,nr3,nr4,nr5,nr6]
                  refine wpAnyH_ready (rs := [10]) (by kernel_rfl) (by simp) ?_
                  refine AllReadyH.cons rfl (fun K hK => ?_) AllReadyH.nil
                  go_simp
                  refine (HE.out _).mono ?_; rintro e wn ⟨rfl,hbn⟩
                  go_wp2_with fail
                  refine hK.out _ _ ?_ (fun hHeld => ?_)
                  · exact curS_step hHeld hbn
                  clear hK K
                  try simp only [Act.put,nr1,nr2,nr3,nr4,nr5,nr6]
                  refine wpAnyH_ready (rs := [11]) (by kernel_rfl) (by simp) ?_
                  refine AllReadyH.cons rfl (fun K hK => ?_) AllReadyH.nil
                  go_simp
                  refine (HI2.out _).mono ?_; rintro e wm ⟨rfl,rfl⟩
                  go_wp2_with fail
                  refine hK.out _ _ ?_ (fun hHeld => ?_)
                  · exact hHeld
                  clear hK K
                  try simp only [Act.put,nr1,nr2,nr3,nr4,nr5,nr6]
                  refine tk (i := 12) (v := ?_) rfl hHeld (.inl ⟨by rfl,?_⟩) ?_
                  rotate_left
                  · intro wy hSw; (try dsimp only at hSw); go_simp; (try with_reducible rfl)
                  try simp only [Act.put,nr1,nr2,nr3,nr4,nr5,nr6]
                  refine tk (i := 13) (v := ?_) rfl hHeld (.inl ⟨by rfl,?_⟩) ?_
                  rotate_left
                  · intro wy hSw; (try dsimp only at hSw); go_simp; (try with_reducible rfl)
                  try simp only [Act.put,nr1,nr2,nr3,nr4,nr5,nr6]
                  refine tk (i := 14) (v := ?_) rfl hHeld (.inl ⟨by rfl,?_⟩) ?_
                  rotate_left
                  · intro wy hSw; (try dsimp only at hSw); go_simp; (try with_reducible rfl)
                  try simp only [Act.put,nr1,nr2,nr3,nr4,nr5,nr6]
                  refine tk (i := 15) (v := undef) rfl hHeld (.inr ⟨by rfl,rfl⟩) ?_
                  try simp only [Act.put,nr1,nr2,nr3,nr4,nr5,nr6]
                  refine tk (i := 16) (v := undef) rfl hHeld (.inr ⟨by rfl,rfl⟩) ?_
                  try simp only [Act.put,nr1,nr2,nr3,nr4,nr5,nr6]
                  refine tk (i := 17) (v := undef) rfl hHeld (.inr ⟨by rfl,rfl⟩) ?_
                  try simp only [Act.put,nr1,nr2,nr3,nr4,nr5,nr6]
                  refine tk (i := 18) (v := undef) rfl hHeld (.inr ⟨by rfl,rfl⟩) ?_
                  try simp only [Act.put,nr1,nr2,nr3,nr4,nr5,nr6]
                  refine tk (i := 19) (v := undef) rfl hHeld (.inr ⟨by rfl,rfl⟩) ?_
                  try simp only [Act.put,nr1,nr2,nr3,nr4,nr5,nr6]
                  refine tk (i := 20) (v := undef) rfl hHeld (.inr ⟨by rfl,rfl⟩) ?_
                  try simp only [Act.put,nr1,nr2,nr3,nr4,nr5,nr6]
                  refine tk (i := 21) (v := undef) rfl hHeld (.inr ⟨by rfl,rfl⟩) ?_
                  try simp only [Act.put,nr1,nr2,nr3,nr4,nr5,nr6]
                  refine tk (i := 22) (v := undef) rfl hHeld (.inr ⟨by rfl,rfl⟩) ?_
                  try simp only [Act.put,nr1,nr2,nr3,nr4,nr5,nr6]
                  refine tk (i := 23) (v := undef) rfl hHeld (.inr ⟨by rfl,rfl⟩) ?_
                  try simp only [Act.put,nr1,nr2,nr3,nr4,nr5,nr6]
                  refine tk (i := 24) (v := undef) rfl hHeld (.inr ⟨by rfl,rfl⟩) ?_
                  try simp only [Act.put,nr1,nr2,nr3,nr4,nr5,nr6]
                  refine tk (i := 25) (v := undef) rfl hHeld (.inr ⟨by rfl,rfl⟩) ?_
                  try simp only [Act.put,nr1,nr2,nr3,nr4,nr5,nr6]
                  refine tk (i := 26) (v := undef) rfl hHeld (.inr ⟨by rfl,rfl⟩) ?_
                  try simp only [Act.put,nr1,nr2,nr3,nr4,nr5,nr6]
                  refine tk (i := 27) (v := undef) rfl hHeld (.inr ⟨by rfl,rfl⟩) ?_
                  try simp only [Act.put,nr1,nr2,nr3,nr4,nr5,nr6]
                  refine tk (i := 28) (v := undef) rfl hHeld (.inr ⟨by rfl,rfl⟩) ?_
                  try simp only [Act.put,nr1,nr2,nr3,nr4,nr5,nr6]
                  refine tk (i := 29) (v := ?_) rfl hHeld (.inl ⟨by rfl,?_⟩) ?_
                  rotate_left
                  · intro wy hSw; (try dsimp only at hSw); go_simp; (try with_reducible rfl)
                  try simp only [Act.put,nr1,nr2,nr3,nr4,nr5,nr6]
                  refine wpAnyH_done (by kernel_rfl) ?_ _
                  go_wp2_with fail
                  go_meet
                  exact ⟨rfl,(cinv_step (cinv_drew HCI.out) hbn).1⟩
                case rest =>
                obtain ⟨rfl,HFIN⟩ := hcut
                clear HCI
                go_wp2
                go_ret
                exact ⟨ret_bool (by rw [hFA.out]; simp),HFIN.out.2⟩
            · rw [decide_eq_false x1] at HI1
              have hFA : Hid (cursOk first (first + (rl : Int)) none curs = false) := by
                have h := HCO.out.symm.trans hok.out
                show _ = _
                rw [← h,decide_eq_false x1]
                simp
              clear x1 HCO
              go_upto_region 12 with fail
              go_cut [91] (fun s91 wc => s91 = .bool true ∧ Hid (RInv w (ringObj cap first ra rl rc (some ⟨b,off,none⟩) cl cc) wc))
              case first =>
                refine wp_region_held_drew (S := (fun wx => (wx.cell? ⟨w.heap.size,0,none⟩ = some (.int .i64 cap) ∧ wx.cell? ⟨w.heap.size,1,none⟩ = some (.int .i64 first) ∧ wx.cell? ⟨w.heap.size,2,none⟩ = some (.slice ra rl rc) ∧ wx.cell? ⟨w.heap.size,3,none⟩ = some (.slice (some ⟨b,off,none⟩) cl cc)) ∧ (wx.cell? ⟨wr.heap.size,0,none⟩ = some (.int .i64 G) ∧ wx.cell? ⟨wr.heap.size,1,none⟩ = some (.int .i64 A) ∧ wx.cell? ⟨b,off + j * 2,none⟩ = some (.int .i64 Gp)) ∧ Hid (CInv w (ringObj cap first ra rl rc (some ⟨b,off,none⟩) cl cc) wr.heap.size G A ⟨b,off + j * 2,none⟩ Gp wx))) (by kernel_rfl) (curS_of (cinv_drew HCI.out)) (fun hHeld => ?_)
                refine tk (i := 0) (v := ?_) rfl hHeld (.inl ⟨by rfl,?_⟩) ?_
                rotate_left
                · intro wy hSw; (try dsimp only at hSw); go_simp; (try with_reducible rfl)
                try simp only [Act.put,nr1,nr2,nr3,nr4,nr5,nr6]
                refine tk (i := 1) (v := ?_) rfl hHeld (.inl ⟨by rfl,?_⟩) ?_
                rotate_left
                · intro wy hSw; (try dsimp only at hSw); go_simp; (try with_reducible rfl)
                try simp only [Act.put,nr1,nr2,nr3,nr4,nr5,nr6]
                refine wpAnyH_ready (rs := [2]) (by kernel_rfl) (by simp) ?_
                refine AllReadyH.cons rfl (fun K hK => ?_) AllReadyH.nil
                go_simp
                refine (HI1.out _).mono ?_; rintro e wn ⟨rfl,rfl⟩
                go_wp2_with fail
                refine hK.out _ _ ?_ (fun hHeld => ?_)
                · exact hHeld
                clear hK K
                try simp only [Act.put,nr1,nr2,nr3,nr4,nr5,nr6]
                refine tk (i := 3) (v := ?_) rfl hHeld (.inl ⟨by rfl,?_⟩) ?_
                rotate_left
                · intro wy hSw; (try dsimp only at hSw); go_simp; (try with_reducible rfl)
                try simp only [Act.put,nr1,nr2,nr3,nr4,nr5,nr6]
                refine tk (i := 4) (v := ?_) rfl hHeld (.inl ⟨by rfl,?_⟩) ?_
                rotate_left
                · intro wy hSw; (try dsimp only at hSw); go_simp; (try with_reducible rfl)
                try simp only [Act.put,nr1,nr2,nr3,nr4,nr5,nr6]
                refine tk (i := 5) (v := undef) rfl hHeld (.inr ⟨by rfl,rfl⟩) ?_
                try simp only [Act.put,nr1,nr2,nr3,nr4,nr5,nr6]
                refine tk (i := 6) (v := undef) rfl hHeld (.inr ⟨by rfl,rfl⟩) ?_
                try simp only [Act.put,nr1,nr2,nr3,nr4,nr5,nr6]
                refine tk (i := 7) (v := undef) rfl hHeld (.inr ⟨by rfl,rfl⟩) ?_
                try simp only [Act.put,nr1,nr2,nr3,nr4,nr5,nr6]
                refine tk (i := 8) (v := undef) rfl hHeld (.inr ⟨by rfl,rfl⟩) ?_
                try simp only [Act.put,nr1,nr2,nr3,nr4,nr5,nr6]
                refine tk (i := 9) (v := undef) rfl hHeld (.inr ⟨by rfl,rfl⟩) ?_
                try simp only [Act.put,nr1,nr2,nr3,nr4,nr5,nr6]
                refine tk (i := 10) (v := undef) rfl hHeld (.inr ⟨by rfl,rfl⟩) ?_
                try simp only [Act.put,nr1,nr2,nr3,nr4,nr5,nr6]
                refine tk (i := 11) (v := undef) rfl hHeld (.inr ⟨by rfl,rfl⟩) ?_
                try simp only [Act.put,nr1,nr2,nr3,nr4,nr5,nr6]
                refine tk (i := 12) (v := undef) rfl hHeld (.inr ⟨by rfl,rfl⟩) ?_
                try simp only [Act.put,nr1,nr2,nr3,nr4,nr5,nr6]
                refine tk (i := 13) (v := ?_) rfl hHeld (.inl ⟨by rfl,?_⟩) ?_
                rotate_left
                · intro wy hSw; (try dsimp only at hSw); go_simp; (try with_reducible rfl)
                try simp only [Act.put,nr1,nr2,nr3,nr4,nr5,nr6]
                refine tk (i := 14) (v := ?_) rfl hHeld (.inl ⟨by rfl,?_⟩) ?_
                rotate_left
                · intro wy hSw; (try dsimp only at hSw); go_simp; (try with_reducible rfl)
                try simp only [Act.put,nr1,nr2,nr3,nr4,nr5,nr6]
                refine tk (i := 15) (v := undef) rfl hHeld (.inr ⟨by rfl,rfl⟩) ?_
                try simp only [Act.put,nr1,nr2,nr3,nr4,nr5,nr6]
                refine tk (i := 16) (v := undef) rfl hHeld (.inr ⟨by rfl,rfl⟩) ?_
                try simp only [Act.put,nr1,nr2,nr3,nr4,nr5,nr6]
                refine tk (i := 17) (v := undef) rfl hHeld (.inr ⟨by rfl,rfl⟩) ?_
                try simp only [Act.put,nr1,nr2,nr3,nr4,nr5,nr6]
                refine tk (i := 18) (v := undef) rfl hHeld (.inr ⟨by rfl,rfl⟩) ?_
                try simp only [Act.put,nr1,nr2,nr3,nr4,nr5,nr6]
                refine tk (i := 19) (v := undef) rfl hHeld (.inr ⟨by rfl,rfl⟩) ?_
                try simp only [Act.put,nr1,nr2,nr3,nr4,nr5,nr6]
                refine tk (i := 20) (v := undef) rfl hHeld (.inr ⟨by rfl,rfl⟩) ?_
                try simp only [Act.put,nr1,nr2,nr3,nr4,nr5,nr6]
                refine tk (i := 21) (v := undef) rfl hHeld (.inr ⟨by rfl,rfl⟩) ?_
                try simp only [Act.put,nr1,nr2,nr3,nr4,nr5,nr6]
                refine tk (i := 22) (v := undef) rfl hHeld (.inr ⟨by rfl,rfl⟩) ?_
                try simp only [Act.put,nr1,nr2,nr3,nr4,nr5,nr6]
                refine tk (i := 23) (v := undef) rfl hHeld (.inr ⟨by rfl,rfl⟩) ?_
                try simp only [Act.put,nr1,nr2,nr3,nr4,nr5,nr6]
                refine tk (i := 24) (v := undef) rfl hHeld (.inr ⟨by rfl,rfl⟩) ?_
                try simp only [Act.put,nr1,nr2,nr3,nr4,nr5,nr6]
                refine tk (i := 25) (v := undef) rfl hHeld (.inr ⟨by rfl,rfl⟩) ?_
                try simp only [Act.put,nr1,nr2,nr3,nr4,nr5,nr6]
                refine tk (i := 26) (v := undef) rfl hHeld (.inr ⟨by rfl,rfl⟩) ?_
                try simp only [Act.put,nr1,nr2,nr3,nr4,nr5,nr6]
                refine tk (i := 27) (v := undef) rfl hHeld (.inr ⟨by rfl,rfl⟩) ?_
                try simp only [Act.put,nr1,nr2,nr3,nr4,nr5,nr6]
                refine tk (i := 28) (v := undef) rfl hHeld (.inr ⟨by rfl,rfl⟩) ?_
                try simp only [Act.put,nr1,nr2,nr3,nr4,nr5,nr6]
                refine tk (i := 29) (v := ?_) rfl hHeld (.inl ⟨by rfl,?_⟩) ?_
                rotate_left
                · intro wy hSw; (try dsimp only at hSw); go_simp; (try with_reducible rfl)
                try simp only [Act.put,nr1,nr2,nr3,nr4,nr5,nr6]
                refine wpAnyH_done (by kernel_rfl) ?_ _
                go_wp2_with fail
                go_meet
                exact ⟨rfl,(cinv_drew HCI.out).1⟩
              case rest =>
              obtain ⟨rfl,HFIN⟩ := hcut
              clear HCI
              go_wp2
              go_ret
              exact ⟨ret_bool (by rw [hFA.out]; simp),HFIN.out.2⟩
        · have hCO : Hid (cursOk first (first + (rl : Int)) none curs = true) := by
            have h := hok.out
            rw [List.drop_of_length_le (by have h := HU0.out.1; omega)] at h
            show _ = _
            rw [← h]; cases prevG curs k <;> rfl
          have HLE : Hid _ := fun w' h => spec_least cap first ra rl rc ca cl cc curs w' h (by omega)
          go_wp2
          go_region_held3 (fun wx => (wx.cell? ⟨w.heap.size,0,none⟩ = some (.int .i64 cap) ∧ wx.cell? ⟨w.heap.size,1,none⟩ = some (.int .i64 first) ∧ wx.cell? ⟨w.heap.size,2,none⟩ = some (.slice ra rl rc) ∧ wx.cell? ⟨w.heap.size,3,none⟩ = some (.slice ca cl cc)) ∧ Hid (RInv w (ringObj cap first ra rl rc ca cl cc) wx))
            ((first | exact boxS_step (by assumption) hbn | exact boxS_of (rinv_drew HI.out))) ((first | (go_at_call 158; refine (HLE.out _ ?_).mono ?_; exact boxS_curs (by assumption) HU0.out; rintro e wn ⟨rfl,hbn⟩)))
          have hfin := rinv_step (rinv_drew HI.out) hbn
          have HFIN : Hid _ := hfin
          clear hfin hbn
          go_wp2
          go_ret
          exact ⟨ret_bool (by rw [hALL.out,hCO.out]; simp only [Bool.true_and]; rw [Bool.eq_iff_iff,beq_iff_eq,decide_eq_true_iff]),HFIN.out.2⟩
theorem spec_ringRight (cap first : Int) (ra : Option Addr) (rl rc : Nat) (ca : Option Addr) (cl cc : Nat) (recs : List ByteArray) (curs : List (Int × Int)) (w : World) (hr : Strs w ra rl recs) (hc : Curs w ca cl curs) (hs : ∀ s ∈ recs,s.size ≤ maxLen) (hl : rl ≤ 1048576) (hcl : cl ≤ 1048576) :
    Calls Tryz.prog 105 #[ringV cap first ra rl rc ca cl cc] w fun e w' => e = .returned (.bool (ringRightB cap first recs curs)) ∧ Below w.heap.size w w' := by
  have e1 := hr.1
  have e2 := hc.1
  by_cases h : capB cap = true ∧ (0 ≤ first ∧ first ≤ 1000000) ∧ (rl : Int) ≤ cap ∧ first + (rl : Int) ≤ 1000000 ∧ cl ≤ 4
  · rw [ring_head (recs := recs) (curs := curs) (by rw [e1,e2]; exact h),e1]
    exact spec_right_body cap first ra rl rc ca cl cc recs curs w hr hc hs h.1 h.2.1 h.2.2.1 h.2.2.2.1 h.2.2.2.2
  · rw [ring_no1 (recs := recs) (curs := curs) (by rw [e1,e2]; exact h)]
    exact spec_right_head cap first ra rl rc ca cl cc w hl hcl h
end Go.Proofs.YtahccighonddaaaGreatDoor
