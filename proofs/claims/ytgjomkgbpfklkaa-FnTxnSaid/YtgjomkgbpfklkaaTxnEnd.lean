/- TxnEnd, of the specification and of the program. -/
import Derived.Test.YtgjomkgbpfklkaaTxnCopy2
namespace Go.Proofs.Ytgjomkgbpfklkaa
open Go.RowKit
variable {p e s u : Int} {ra la : Option Addr} {rl rc ll lc : Nat}

/-- Whether a transaction may end so. -/
def endC (p e s u : Int) (rs ls : List Int) (st : Int) : Bool := txnRightB p e s u rs ls && decide (s = 1) && endsB st
def endS (p e s u : Int) (rs ls : List Int) (st : Int) : Int := if endC p e s u rs ls st = true then st else s
def endL (p e s u : Int) (rs ls : List Int) (st : Int) : List Int := if endC p e s u rs ls st = true then rs else ls
theorem tans_fin {w w3 : World} {base : Nat} {p e s u : Int} {rs ls : List Int} {a b : Option Addr} {n q m r : Nat} (hn : rs.length = n) (hm : ls.length = m) (ho : OwnTxn w3 base a n q b m r (numCells rs) (numCells ls)) (hb : w.heap.size + 2 ≤ base) (hB : Below w.heap.size w w3) (v0 v1 v2 v3 v4 v5 : Value) :
    TAns w (tset6 w3 (w.heap.size + 1) v0 v1 v2 v3 v4 v5) (.returned (txnV p e s u a n q b m r)) p e s u rs ls := by
  subst hn hm
  exact ⟨a, q, b, r, rfl, (ho.set6 (w.heap.size + 1) (by omega) _ _ _ _ _ _).mono (by omega), below_set6 hB _ (by omega) _ _ _ _ _ _⟩
theorem t2_lt {w wr : World} {o0 o1 : Obj} (h : T2 w wr o0 o1) : w.heap.size < wr.heap.size ∧ w.heap.size + 1 < wr.heap.size := by have := h.size; omega
set_option maxRecDepth 100000 in
set_option maxHeartbeats 4000000 in
theorem spec_txnEnd (st : Int) (rs ls : List Int) (w : World) (hi : TFit w ra rl rc la ll lc rs ls) :
    Calls Try.prog 12 #[txnV p e s u ra rl rc la ll lc, .int .i64 st] w fun x w' => TAns w w' x p e (endS p e s u rs ls st) u rs (endL p e s u rs ls st) := by
  have HI : Hid (TFit w ra rl rc la ll lc rs ls) := hi
  have hrl : rl ≤ 1048577 := Nat.le_succ_of_le hi.rle
  have hll : ll ≤ 1048577 := Nat.le_succ_of_le hi.lle
  have HL : Hid (rs.length = rl) := hi.rs.nums.1
  have HLC : Hid (ls.length = ll) := hi.ls.nums.1
  have HRT : Hid _ := fun w (h : TIn w ra rl la ll rs ls) => spec_txnRight (p := p) (e := e) (s := s) (u := u) (rc := rc) (lc := lc) rs ls w h
  have HIS : Hid _ := fun w => tspec_is st 2 3 w
  clear hi
  have HS0 : Hid (T2 w ((w.alloc (txnObj p e s u ra rl rc la ll lc)).alloc (txnObj 0 0 0 0 none 0 0 none 0 0)) (txnObj p e s u ra rl rc la ll lc) (txnObj 0 0 0 0 none 0 0 none 0 0)) := t2_start ..
  have HN : Hid (endC p e s u rs ls st = false → endS p e s u rs ls st = s ∧ endL p e s u rs ls st = ls) := fun h => by simp [endS, endL, h]
  have HY : Hid (endC p e s u rs ls st = true → endS p e s u rs ls st = st ∧ endL p e s u rs ls st = rs) := fun h => by simp [endS, endL, h]
  have HCC : Hid (endC p e s u rs ls st = (txnRightB p e s u rs ls && decide (s = 1) && endsB st)) := rfl
  obtain ⟨R, hR⟩ : ∃ R, txnRightB p e s u rs ls = R := ⟨_, rfl⟩
  rw [hR] at HRT HCC
  clear hR
  cases R
  · obtain ⟨h1, h2⟩ := HN.out (HCC.out.trans (by simp))
    have H1 : Hid _ := h1
    have H2 : Hid _ := h2
    clear h1 h2 HN HY HCC
    go_enter Try.func12, Try.ntmps12
    go_wp2_with fail
    refine (HRT.out _ (HI.out.tin.below HS0.out.below)).mono ?_
    rintro x w1 ⟨rfl, hb1⟩
    have HS1 : Hid _ := HS0.out.under hb1
    have hc1 := fun o => HS1.out.cell0 o
    clear hb1
    go_wp2_with fail
    refine (spec_tcopy rs ls _ (HI.out.rs.below HS1.out.below) (HI.out.ls.below HS1.out.below) hrl hll).mono ?_
    rintro x w2 ⟨a2, q2, b2, m2, rfl, ho2, hb2⟩
    have HS2 : Hid _ := HS1.out.under hb2
    have hc2 := fun o => HS2.out.cell1 o
    have hf2 := fun o => HS2.out.free1 o
    have HO2 : Hid (OwnTxn w2 w1.heap.size a2 rl q2 b2 ll m2 (numCells rs) (numCells ls)) := ho2
    clear hb2 ho2 hc1
    go_wp2
    refine bodyPost_ret (v := txnV p e s u a2 rl q2 b2 ll m2) (by simp [results, Try.results12, go_sem, hc2]) rfl ?_
    rw [H1.out, H2.out]
    exact tans_fin HL.out HLC.out HO2.out HS1.out.size HS2.out.below _ _ _ _ _ _
  · by_cases hs : s = 1
    · subst hs
      by_cases hst : 2 ≤ st ∧ st ≤ 3
      · rw [decide_eq_true hst] at HIS
        obtain ⟨h1, h2⟩ := HY.out (HCC.out.trans (by simp [endsB, hst]))
        have H1 : Hid _ := h1
        have H2 : Hid _ := h2
        clear h1 h2 HN HY HCC hst
        go_enter Try.func12, Try.ntmps12
        go_wp2_with fail
        refine (HRT.out _ (HI.out.tin.below HS0.out.below)).mono ?_
        rintro x w1 ⟨rfl, hb1⟩
        have HS1 : Hid _ := HS0.out.under hb1
        have hc1 := fun o => HS1.out.cell0 o
        clear hb1
        go_wp2_with fail
        refine (HIS.out _).mono ?_
        rintro x w1' ⟨rfl, hw1⟩
        rw [hw1]
        clear hw1 w1'
        go_wp2_with fail
        refine (spec_tend st rs ls _ (HI.out.rs.below HS1.out.below) (HI.out.ls.below HS1.out.below) hrl hll).mono ?_
        rintro x w2 ⟨a2, q2, b2, m2, rfl, ho2, hb2⟩
        have HS2 : Hid _ := HS1.out.under hb2
        have hc2 := fun o => HS2.out.cell1 o
        have hf2 := fun o => HS2.out.free1 o
        have HO2 : Hid (OwnTxn w2 w1.heap.size a2 rl q2 b2 rl m2 (numCells rs) (numCells rs)) := ho2
        clear hb2 ho2 hc1
        go_wp2
        refine bodyPost_ret (v := txnV p e st u a2 rl q2 b2 rl m2) (by simp [results, Try.results12, go_sem, hc2]) rfl ?_
        rw [H1.out, H2.out]
        exact tans_fin HL.out HL.out HO2.out HS1.out.size HS2.out.below _ _ _ _ _ _
      · rw [decide_eq_false hst] at HIS
        obtain ⟨h1, h2⟩ := HN.out (HCC.out.trans (by simp [endsB, hst]))
        have H1 : Hid _ := h1
        have H2 : Hid _ := h2
        clear h1 h2 HN HY HCC hst
        go_enter Try.func12, Try.ntmps12
        go_wp2_with fail
        refine (HRT.out _ (HI.out.tin.below HS0.out.below)).mono ?_
        rintro x w1 ⟨rfl, hb1⟩
        have HS1 : Hid _ := HS0.out.under hb1
        have hc1 := fun o => HS1.out.cell0 o
        clear hb1
        go_wp2_with fail
        refine (HIS.out _).mono ?_
        rintro x w1' ⟨rfl, hw1⟩
        rw [hw1]
        clear hw1 w1'
        go_wp2_with fail
        refine (spec_tcopy rs ls _ (HI.out.rs.below HS1.out.below) (HI.out.ls.below HS1.out.below) hrl hll).mono ?_
        rintro x w2 ⟨a2, q2, b2, m2, rfl, ho2, hb2⟩
        have HS2 : Hid _ := HS1.out.under hb2
        have hc2 := fun o => HS2.out.cell1 o
        have hf2 := fun o => HS2.out.free1 o
        have HO2 : Hid (OwnTxn w2 w1.heap.size a2 rl q2 b2 ll m2 (numCells rs) (numCells ls)) := ho2
        clear hb2 ho2 hc1
        go_wp2
        refine bodyPost_ret (v := txnV p e 1 u a2 rl q2 b2 ll m2) (by simp [results, Try.results12, go_sem, hc2]) rfl ?_
        rw [H1.out, H2.out]
        exact tans_fin HL.out HLC.out HO2.out HS1.out.size HS2.out.below _ _ _ _ _ _
    · have hs' : (s != 1) = true := by simpa using hs
      obtain ⟨h1, h2⟩ := HN.out (HCC.out.trans (by simp [hs]))
      have H1 : Hid _ := h1
      have H2 : Hid _ := h2
      clear h1 h2 HN HY HCC hs
      go_enter Try.func12, Try.ntmps12
      go_wp2_with fail
      refine (HRT.out _ (HI.out.tin.below HS0.out.below)).mono ?_
      rintro x w1 ⟨rfl, hb1⟩
      have HS1 : Hid _ := HS0.out.under hb1
      have hc1 := fun o => HS1.out.cell0 o
      clear hb1
      go_wp2_with fail
      refine (spec_tcopy rs ls _ (HI.out.rs.below HS1.out.below) (HI.out.ls.below HS1.out.below) hrl hll).mono ?_
      rintro x w2 ⟨a2, q2, b2, m2, rfl, ho2, hb2⟩
      have HS2 : Hid _ := HS1.out.under hb2
      have hc2 := fun o => HS2.out.cell1 o
      have hf2 := fun o => HS2.out.free1 o
      have HO2 : Hid (OwnTxn w2 w1.heap.size a2 rl q2 b2 ll m2 (numCells rs) (numCells ls)) := ho2
      clear hb2 ho2 hc1
      go_wp2
      refine bodyPost_ret (v := txnV p e s u a2 rl q2 b2 ll m2) (by simp [results, Try.results12, go_sem, hc2]) rfl ?_
      rw [H1.out, H2.out]
      exact tans_fin HL.out HLC.out HO2.out HS1.out.size HS2.out.below _ _ _ _ _ _
def openB (p e s u : Int) (rs ls : List Int) : Bool := txnRightB p e s u rs ls && decide (s = 1)
set_option maxHeartbeats 1000000 in
theorem impl_txnOpen (rs ls : List Int) (w : World) (hi : TIn w ra rl la ll rs ls) :
    Calls Try.prog 25 #[txnV p e s u ra rl rc la ll lc] w fun x w' => x = .returned (.bool (openB p e s u rs ls)) ∧ Below w.heap.size w w' := by
  have HI : Hid (TIn w ra rl la ll rs ls) := hi
  have HRT : Hid _ := fun w (h : TIn w ra rl la ll rs ls) => impl_txnRight (p := p) (e := e) (s := s) (u := u) (rc := rc) (lc := lc) rs ls w h
  clear hi
  have HB0 : Hid (Below w.heap.size w (w.alloc (txnObj p e s u ra rl rc la ll lc))) := tbelow_new _ _
  have HG : Hid (openB p e s u rs ls = (txnRightB p e s u rs ls && decide (s = 1))) := rfl
  obtain ⟨R, hR⟩ : ∃ R, txnRightB p e s u rs ls = R := ⟨_, rfl⟩
  rw [hR] at HRT HG
  clear hR
  go_enter Try.func25, Try.ntmps25
  go_wp2_with fail
  refine (HRT.out _ (HI.out.below HB0.out)).mono ?_
  rintro x w1 ⟨rfl, hb1⟩
  have HB1 : Hid (Below w.heap.size w w1) := tbelow_tr HB0.out hb1
  have hK1 := tblk (heap_alloc_new w (txnObj p e s u ra rl rc la ll lc)) hb1
  have hc1 := fun o => tcell hK1 o
  clear hb1 hK1
  cases R
  · have hE : Hid (openB p e s u rs ls = false) := HG.out.trans (by simp)
    clear HG
    go_wp2
    go_ret
    exact ⟨ret_bool hE.out.symm, HB1.out⟩
  · have hE : Hid (openB p e s u rs ls = (s == 1)) := HG.out.trans (by simp; rfl)
    clear HG
    go_wp2
    go_ret
    exact ⟨ret_bool hE.out.symm, HB1.out⟩
set_option maxRecDepth 100000 in
set_option maxHeartbeats 4000000 in
theorem impl_txnEnd (st : Int) (rs ls : List Int) (w : World) (hi : TFit w ra rl rc la ll lc rs ls) :
    Calls Try.prog 8 #[txnV p e s u ra rl rc la ll lc, .int .i64 st] w fun x w' => TAns w w' x p e (endS p e s u rs ls st) u rs (endL p e s u rs ls st) := by
  have HI : Hid (TFit w ra rl rc la ll lc rs ls) := hi
  have hrl : rl ≤ 1048577 := Nat.le_succ_of_le hi.rle
  have hll : ll ≤ 1048577 := Nat.le_succ_of_le hi.lle
  have HL : Hid (rs.length = rl) := hi.rs.nums.1
  have HLC : Hid (ls.length = ll) := hi.ls.nums.1
  have HRT : Hid _ := fun w (h : TIn w ra rl la ll rs ls) => impl_txnOpen (p := p) (e := e) (s := s) (u := u) (rc := rc) (lc := lc) rs ls w h
  have HIS : Hid _ := fun w => timpl_ends st w
  clear hi
  have HS0 : Hid (T2 w ((w.alloc (txnObj p e s u ra rl rc la ll lc)).alloc (txnObj 0 0 0 0 none 0 0 none 0 0)) (txnObj p e s u ra rl rc la ll lc) (txnObj 0 0 0 0 none 0 0 none 0 0)) := t2_start ..
  have HN : Hid (endC p e s u rs ls st = false → endS p e s u rs ls st = s ∧ endL p e s u rs ls st = ls) := fun h => by simp [endS, endL, h]
  have HY : Hid (endC p e s u rs ls st = true → endS p e s u rs ls st = st ∧ endL p e s u rs ls st = rs) := fun h => by simp [endS, endL, h]
  have HCC : Hid (endC p e s u rs ls st = (openB p e s u rs ls && endsB st)) := rfl
  obtain ⟨R, hR⟩ : ∃ R, openB p e s u rs ls = R := ⟨_, rfl⟩
  obtain ⟨E, hE⟩ : ∃ E, endsB st = E := ⟨_, rfl⟩
  rw [hR] at HRT HCC
  rw [hE] at HIS HCC
  clear hR hE
  go_enter Try.func8, Try.ntmps8
  go_wp2_with fail
  refine (HRT.out _ (HI.out.tin.below HS0.out.below)).mono ?_
  rintro x w1 ⟨rfl, hb1⟩
  have HS1 : Hid _ := HS0.out.under hb1
  have hc1 := fun o => HS1.out.cell0 o
  have hf1 := fun o => HS1.out.free0 o
  clear hb1
  cases R
  · obtain ⟨h1, h2⟩ := HN.out (HCC.out.trans (by simp))
    have H1 : Hid _ := h1
    have H2 : Hid _ := h2
    clear h1 h2 HN HY HCC
    go_wp2_with fail
    refine (impl_copyTxn rs ls _ (HI.out.rs.below HS1.out.below) (HI.out.ls.below HS1.out.below) hrl hll).mono ?_
    rintro x w2 ⟨a2, q2, b2, m2, rfl, ho2, hb2⟩
    have HS2 : Hid _ := HS1.out.under hb2
    have hc2 := fun o => HS2.out.cell1 o
    have hf2 := fun o => HS2.out.free1 o
    have HO2 : Hid (OwnTxn w2 w1.heap.size a2 rl q2 b2 ll m2 (numCells rs) (numCells ls)) := ho2
    clear hb2 ho2 hc1 hf1
    go_wp2
    refine bodyPost_ret (v := txnV p e s u a2 rl q2 b2 ll m2) (by simp [results, Try.results8, go_sem, hc2]) rfl ?_
    rw [H1.out, H2.out]
    exact tans_fin HL.out HLC.out HO2.out HS1.out.size HS2.out.below _ _ _ _ _ _
  · go_wp2_with fail
    refine (HIS.out _).mono ?_
    rintro x w1' ⟨rfl, hw1⟩
    rw [hw1]
    clear hw1 w1'
    cases E
    · obtain ⟨h1, h2⟩ := HN.out (HCC.out.trans (by simp))
      have H1 : Hid _ := h1
      have H2 : Hid _ := h2
      clear h1 h2 HN HY HCC
      go_wp2_with fail
      refine (impl_copyTxn rs ls _ (HI.out.rs.below HS1.out.below) (HI.out.ls.below HS1.out.below) hrl hll).mono ?_
      rintro x w2 ⟨a2, q2, b2, m2, rfl, ho2, hb2⟩
      have HS2 : Hid _ := HS1.out.under hb2
      have hc2 := fun o => HS2.out.cell1 o
      have hf2 := fun o => HS2.out.free1 o
      have HO2 : Hid (OwnTxn w2 w1.heap.size a2 rl q2 b2 ll m2 (numCells rs) (numCells ls)) := ho2
      clear hb2 ho2 hc1 hf1
      go_wp2
      refine bodyPost_ret (v := txnV p e s u a2 rl q2 b2 ll m2) (by simp [results, Try.results8, go_sem, hc2]) rfl ?_
      rw [H1.out, H2.out]
      exact tans_fin HL.out HLC.out HO2.out HS1.out.size HS2.out.below _ _ _ _ _ _
    · obtain ⟨h1, h2⟩ := HY.out (HCC.out.trans (by simp))
      have H1 : Hid _ := h1
      have H2 : Hid _ := h2
      clear h1 h2 HN HY HCC
      have HS3 : Hid (T2 w ((w1.setCell ⟨w.heap.size, 2, none⟩ (.int .i64 st)).setCell ⟨w.heap.size, 5, none⟩ (.slice ra rl rc)) (txnObj p e st u ra rl rc ra rl rc) (txnObj 0 0 0 0 none 0 0 none 0 0)) := (HS1.out.set0 2 (.int .i64 st)).set0 5 (.slice ra rl rc)
      go_wp2_with fail
      obtain ⟨W3, eW3⟩ : ∃ W3, (w1.setCell ⟨w.heap.size, 2, none⟩ (.int .i64 st)).setCell ⟨w.heap.size, 5, none⟩ (.slice ra rl rc) = W3 := ⟨_, rfl⟩
      rw [eW3] at HS3 ⊢
      clear eW3
      refine (impl_copyTxn rs rs _ (HI.out.rs.below HS3.out.below) (HI.out.rs.below HS3.out.below) hrl hrl).mono ?_
      rintro x w2 ⟨a2, q2, b2, m2, rfl, ho2, hb2⟩
      have HS2 : Hid _ := HS3.out.under hb2
      have hc2 := fun o => HS2.out.cell1 o
      have hf2 := fun o => HS2.out.free1 o
      have HO2 : Hid (OwnTxn w2 W3.heap.size a2 rl q2 b2 rl m2 (numCells rs) (numCells rs)) := ho2
      clear hb2 ho2 hc1 hf1
      go_wp2
      refine bodyPost_ret (v := txnV p e st u a2 rl q2 b2 rl m2) (by simp [results, Try.results8, go_sem, hc2]) rfl ?_
      rw [H1.out, H2.out]
      exact tans_fin HL.out HL.out HO2.out HS3.out.size HS2.out.below _ _ _ _ _ _
end Go.Proofs.Ytgjomkgbpfklkaa
