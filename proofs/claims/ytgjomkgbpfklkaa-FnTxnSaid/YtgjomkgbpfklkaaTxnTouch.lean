/- TxnTouch of the program. -/
import Derived.Test.YtgjomkgbpfklkaaTxnWith
namespace Go.Proofs.Ytgjomkgbpfklkaa
open Go.RowKit
variable {p e s u : Int} {ra la : Option Addr} {rl rc ll lc : Nat}

/-- Rings with one more among them. -/
def insN (g : Int) (rs : List Int) : List Int := if hasB rs g = true then rs else rs.take (findN g rs) ++ g :: rs.drop (findN g rs)
def touchL (p e s u : Int) (rs ls : List Int) (g : Int) : List Int := if (openB p e s u rs ls && rnum g) = true then insN g rs else rs
theorem right_up {p e s u : Int} {rs ls : List Int} (h : openB p e s u rs ls = true) : upB rs = true := by
  simp [openB, txnRightB, ringsB] at h
  simp [h]
set_option maxRecDepth 100000 in
set_option maxHeartbeats 4000000 in
theorem impl_txnTouch (g : Int) (rs ls : List Int) (w : World) (hi : TFit w ra rl rc la ll lc rs ls) :
    Calls Try.prog 10 #[txnV p e s u ra rl rc la ll lc, .int .i64 g] w fun x w' => TAns w w' x p e s u (touchL p e s u rs ls g) ls := by
  have HI : Hid (TFit w ra rl rc la ll lc rs ls) := hi
  have hrl : rl ≤ 1048577 := Nat.le_succ_of_le hi.rle
  have hrl' : rl ≤ 1048576 := hi.rle
  have hll : ll ≤ 1048577 := Nat.le_succ_of_le hi.lle
  have HL : Hid (rs.length = rl) := hi.rs.nums.1
  have HLC : Hid (ls.length = ll) := hi.ls.nums.1
  have HRT : Hid _ := fun w (h : TIn w ra rl la ll rs ls) => impl_txnOpen (p := p) (e := e) (s := s) (u := u) (rc := rc) (lc := lc) rs ls w h
  have HIS : Hid _ := fun w => timpl_rnum g w
  have HTB : Hid _ := fun w => impl_touchedBy (p := p) (e := e) (s := s) (u := u) (ra := ra) (la := la) (rl := rl) (rc := rc) (ll := ll) (lc := lc) w
  have HTC : Hid _ := fun B w hb hr => impl_touched (p := p) (e := e) (s := s) (u := u) (ra := ra) (la := la) (rl := rl) (rc := rc) (ll := ll) (lc := lc) B g rs w hb hr hrl'
  have HFI : Hid _ := fun w h => impl_findN ra rl rc g rs w h hrl'
  have HKL : Hid (findN g rs ≤ rl) := by have := findN_le g rs; rw [HL.out] at this; exact this
  clear hi
  have HS0 : Hid (T2 w ((w.alloc (txnObj p e s u ra rl rc la ll lc)).alloc (txnObj 0 0 0 0 none 0 0 none 0 0)) (txnObj p e s u ra rl rc la ll lc) (txnObj 0 0 0 0 none 0 0 none 0 0)) := t2_start ..
  have HN : Hid ((openB p e s u rs ls && rnum g) = false → touchL p e s u rs ls g = rs) := fun h => by simp [touchL, h]
  have HT1 : Hid (openB p e s u rs ls = true → rnum g = true → touchB rs g = true → touchL p e s u rs ls g = rs) := fun h1 h2 h3 => by
    have : hasB rs g = true := by rw [← find_has (right_up h1) g]; exact h3
    simp [touchL, insN, this]
  have HT2 : Hid (openB p e s u rs ls = true → rnum g = true → touchB rs g = false → touchL p e s u rs ls g = rs.take (findN g rs) ++ g :: rs.drop (findN g rs)) := fun h1 h2 h3 => by
    have : hasB rs g = false := by rw [← find_has (right_up h1) g]; exact h3
    simp [touchL, insN, this, h1, h2]
  obtain ⟨R, hR⟩ : ∃ R, openB p e s u rs ls = R := ⟨_, rfl⟩
  obtain ⟨E, hE⟩ : ∃ E, rnum g = E := ⟨_, rfl⟩
  obtain ⟨T, hT⟩ : ∃ T, touchB rs g = T := ⟨_, rfl⟩
  obtain ⟨K, hK⟩ : ∃ K, findN g rs = K := ⟨_, rfl⟩
  rw [hR] at HRT HN HT1 HT2
  rw [hE] at HIS HN HT1 HT2
  rw [hT] at HTC HT1 HT2
  rw [hK] at HT2 HFI HKL
  obtain ⟨FB, hFB⟩ : ∃ FB, findNB g rs = FB := ⟨_, rfl⟩
  rw [hFB] at HFI
  clear hR hE hT hK hFB
  have hKc := HKL.out
  go_enter Try.func10, Try.ntmps10
  go_wp2_with fail
  refine (HRT.out _ (HI.out.tin.below HS0.out.below)).mono ?_
  rintro x w1 ⟨rfl, hb1⟩
  have HS1 : Hid _ := HS0.out.under hb1
  have hc1 := fun o => HS1.out.cell0 o
  have hf1 := fun o => HS1.out.free0 o
  clear hb1
  cases R
  · have H1 : Hid _ := HN.out (by simp)
    clear HN HT1 HT2
    go_wp2_with fail
    refine (impl_copyTxn rs ls _ (HI.out.rs.below HS1.out.below) (HI.out.ls.below HS1.out.below) hrl hll).mono ?_
    rintro x w2 ⟨a2, q2, b2, m2, rfl, ho2, hb2⟩
    have HS2 : Hid _ := HS1.out.under hb2
    have hc2 := fun o => HS2.out.cell1 o
    have hf2 := fun o => HS2.out.free1 o
    have HO2 : Hid (OwnTxn w2 w1.heap.size a2 rl q2 b2 ll m2 (numCells rs) (numCells ls)) := ho2
    clear hb2 ho2 hc1 hf1
    go_wp2
    refine bodyPost_ret (v := txnV p e s u a2 rl q2 b2 ll m2) (by simp [results, Try.results10, go_sem, hc2]) rfl ?_
    rw [H1.out]
    exact tans_fin HL.out HLC.out HO2.out HS1.out.size HS2.out.below _ _ _ _ _ _
  · go_wp2_with fail
    refine (HIS.out _).mono ?_
    rintro x w1' ⟨rfl, hw1⟩
    rw [hw1]
    clear hw1 w1'
    cases E
    · have H1 : Hid _ := HN.out (by simp)
      clear HN HT1 HT2
      go_wp2_with fail
      refine (impl_copyTxn rs ls _ (HI.out.rs.below HS1.out.below) (HI.out.ls.below HS1.out.below) hrl hll).mono ?_
      rintro x w2 ⟨a2, q2, b2, m2, rfl, ho2, hb2⟩
      have HS2 : Hid _ := HS1.out.under hb2
      have hc2 := fun o => HS2.out.cell1 o
      have hf2 := fun o => HS2.out.free1 o
      have HO2 : Hid (OwnTxn w2 w1.heap.size a2 rl q2 b2 ll m2 (numCells rs) (numCells ls)) := ho2
      clear hb2 ho2 hc1 hf1
      go_wp2
      refine bodyPost_ret (v := txnV p e s u a2 rl q2 b2 ll m2) (by simp [results, Try.results10, go_sem, hc2]) rfl ?_
      rw [H1.out]
      exact tans_fin HL.out HLC.out HO2.out HS1.out.size HS2.out.below _ _ _ _ _ _
    · go_wp2_with fail
      refine (HTB.out _).mono ?_
      rintro x w1' ⟨rfl, hw1⟩
      rw [hw1]
      clear hw1 w1'
      have HS1' : Hid _ := HS1.out.alloc (txnObj p e s u ra rl rc la ll lc)
      go_wp2_with fail
      refine (HTC.out w1.heap.size _ (heap_alloc_new _ _) (HI.out.rs.below HS1'.out.below).nums).mono ?_
      rintro x w1' ⟨rfl, hw1⟩
      rw [hw1]
      clear hw1 w1'
      obtain ⟨W1, eW1⟩ : ∃ W1, w1.alloc (txnObj p e s u ra rl rc la ll lc) = W1 := ⟨_, rfl⟩
      rw [eW1] at HS1' ⊢
      clear eW1 hc1 hf1 HS1
      have hc1 := fun o => HS1'.out.cell0 o
      have hf1 := fun o => HS1'.out.free0 o
      cases T
      · have H1 : Hid _ := HT2.out (by simp) (by simp) (by simp)
        clear HN HT1 HT2
        go_wp2_with fail
        refine (HFI.out _ (HI.out.rs.below HS1'.out.below).nums).mono ?_
        rintro x w1' ⟨rfl, hw1⟩
        rw [hw1]
        clear hw1 w1'
        go_wp2_with fail
        refine (impl_withN ra rl rc K rs g _ (HI.out.rs.below HS1'.out.below) hKc HI.out.rcm hrl').mono ?_
        rintro x w3 ⟨a3, c3, rfl, hn3, hb3, ha3⟩
        have HS3 : Hid _ := HS1'.out.under hb3
        have HN3 : Hid (NumIn w3 a3 (rl + 1) c3 (rs.take K ++ g :: rs.drop K)) := hn3
        have HS4 : Hid (T2 w (w3.setCell ⟨w.heap.size, 4, none⟩ (.slice a3 (rl + 1) c3)) (txnObj p e s u a3 (rl + 1) c3 la ll lc) (txnObj 0 0 0 0 none 0 0 none 0 0)) := HS3.out.set0 4 (.slice a3 (rl + 1) c3)
        have HN4 : Hid (NumIn (w3.setCell ⟨w.heap.size, 4, none⟩ (.slice a3 (rl + 1) c3)) a3 (rl + 1) c3 (rs.take K ++ g :: rs.drop K)) := touch_keep HS1'.out hn3 ha3
        have hc3 := fun o => HS3.out.cell0 o
        have hf3 := fun o => HS3.out.free0 o
        clear hb3 hn3 hc1 hf1 ha3
        go_wp2_with fail
        obtain ⟨W4, eW4⟩ : ∃ W4, w3.setCell ⟨w.heap.size, 4, none⟩ (.slice a3 (rl + 1) c3) = W4 := ⟨_, rfl⟩
        rw [eW4] at HS4 HN4 ⊢
        clear eW4 hc3 hf3
        refine (impl_copyTxn (rs.take K ++ g :: rs.drop K) ls _ HN4.out (HI.out.ls.below HS4.out.below) (by omega) hll).mono ?_
        rintro x w5 ⟨a5, q5, b5, m5, rfl, ho5, hb5⟩
        have HS5 : Hid _ := HS4.out.under hb5
        have hc5 := fun o => HS5.out.cell1 o
        have hf5 := fun o => HS5.out.free1 o
        have HO5 : Hid (OwnTxn w5 W4.heap.size a5 (rl + 1) q5 b5 ll m5 (numCells (rs.take K ++ g :: rs.drop K)) (numCells ls)) := ho5
        clear hb5 ho5
        go_wp2
        refine bodyPost_ret (v := txnV p e s u a5 (rl + 1) q5 b5 ll m5) (by simp [results, Try.results10, go_sem, hc5]) rfl ?_
        rw [H1.out]
        exact tans_fin HN4.out.nums.1 HLC.out HO5.out HS4.out.size HS5.out.below _ _ _ _ _ _
      · have H1 : Hid _ := HT1.out (by simp) (by simp) (by simp)
        clear HN HT1 HT2
        go_wp2_with fail
        refine (impl_copyTxn rs ls _ (HI.out.rs.below HS1'.out.below) (HI.out.ls.below HS1'.out.below) hrl hll).mono ?_
        rintro x w2 ⟨a2, q2, b2, m2, rfl, ho2, hb2⟩
        have HS2 : Hid _ := HS1'.out.under hb2
        have hc2 := fun o => HS2.out.cell1 o
        have hf2 := fun o => HS2.out.free1 o
        have HO2 : Hid (OwnTxn w2 W1.heap.size a2 rl q2 b2 ll m2 (numCells rs) (numCells ls)) := ho2
        clear hb2 ho2 hc1 hf1
        go_wp2
        refine bodyPost_ret (v := txnV p e s u a2 rl q2 b2 ll m2) (by simp [results, Try.results10, go_sem, hc2]) rfl ?_
        rw [H1.out]
        exact tans_fin HL.out HLC.out HO2.out HS1'.out.size HS2.out.below _ _ _ _ _ _
end Go.Proofs.Ytgjomkgbpfklkaa
