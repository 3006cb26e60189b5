/- The law FnTxn: for bytes that can be read it returns true. -/
import Derived.Test.YtgjomkgbpfklkaaDrawsTxn3
import Derived.Deep.RegionHeld3
import Derived.OpenShut
namespace Go.Proofs.Ytgjomkgbpfklkaa
open Go.RowKit

theorem OwnTxn.fit {w : World} {base : Nat} {a b : Option Addr} {n q m r : Nat} {rs ls : List Int} (h : OwnTxn w base a n q b m r (numCells rs) (numCells ls)) (hn : n ≤ 1048576) (hm : m ≤ 1048576) : TFit w a n q b m r rs ls := TW.fit ⟨h.1, h.2.1⟩ hn hm
theorem bytes_in {w : World} {a : Option Addr} {len cap : Nat} {zs : List Int} (h : IsRow .u8 w a len cap zs) : Bytes w.heap.size w a len := fun i hi => by
  rcases h with ⟨rfl, rfl, rfl, rfl⟩ | ⟨x, rfl, hl, hm, hz, hcell, hwz⟩
  · omega
  · obtain ⟨b, off, spot⟩ := x
    have hspot : spot = none := by simpa [Addr.add] using World.cell?_spot (hcell 0 (by omega))
    subst hspot
    have hc := hcell i (by omega)
    rw [Addr.add_lit] at hc
    have hmem : zs.getD i 0 ∈ zs := by
      rw [List.getD_eq_getElem?_getD, List.getElem?_eq_getElem (by omega)]
      exact List.getElem_mem _
    have hb := bounds_u8 (hwz _ hmem)
    obtain ⟨n, hn⟩ := Int.eq_ofNat_of_zero_le hb.1
    exact ⟨b, off, rfl, World.block_lt_of_cell? w ⟨b, off + i, none⟩ hc, n, by omega, by rw [hc, hn]⟩
theorem bytes_more {B C : Nat} {w : World} {a : Option Addr} {len : Nat} (h : Bytes B w a len) (hB : B ≤ C) : Bytes C w a len := fun i hi => by
  obtain ⟨b, off, e', hb, rest⟩ := h i hi
  exact ⟨b, off, e', by omega, rest⟩
/-- A transaction's box, and its lists. -/
structure BX (wx : World) (T : Nat) (p e s u : Int) (a : Option Addr) (q : Nat) (b : Option Addr) (r : Nat) (rs ls : List Int) : Prop where
  box : wx.heap[T]? = some (txnObj p e s u a rs.length q b ls.length r)
  fit : TFit wx a rs.length q b ls.length r rs ls
theorem BX.under {wx wy : World} {T : Nat} {p e s u : Int} {a : Option Addr} {q : Nat} {b : Option Addr} {r : Nat} {rs ls : List Int} (h : BX wx T p e s u a q b r rs ls) (hb : Below wx.heap.size wx wy) : BX wy T p e s u a q b r rs ls := ⟨tblk h.box hb, h.fit.below hb⟩
theorem bx_new {wx : World} {p e s u : Int} {a : Option Addr} {q : Nat} {b : Option Addr} {r : Nat} {rs ls : List Int} (h : TFit wx a rs.length q b ls.length r rs ls) : BX (wx.alloc (txnObj p e s u a rs.length q b ls.length r)) wx.heap.size p e s u a q b r rs ls := ⟨heap_alloc_new _ _, h.below (tbelow_new _ _)⟩
theorem BX.cells {wx : World} {T : Nat} {p e s u : Int} {a : Option Addr} {q : Nat} {b : Option Addr} {r : Nat} {rs ls : List Int} (h : BX wx T p e s u a q b r rs ls) (o : Nat) : wx.cell? ⟨T, o, none⟩ = #[Value.int .i64 p, .int .i64 e, .int .i64 s, .int .i64 u, .slice a rs.length q, .slice b ls.length r][o]? := tcell h.box o
set_option maxRecDepth 100000 in
set_option maxHeartbeats 8000000 in
theorem law_fnTxn_in (a0 : Option Addr) (len0 cap0 : Nat) (a1 : Option Addr) (len1 cap1 : Nat) (w : World) (h0 : len0 ≤ 1048576) (h1 : len1 ≤ 1048576) (hb0 : Bytes w.heap.size w a0 len0) (hb1 : Bytes w.heap.size w a1 len1) :
    Calls Try.prog 3 #[.slice a0 len0 cap0, .slice a1 len1 cap1] w fun x w' => x = .returned (.bool true) ∧ Below w.heap.size w w' := by
  have HY0 : Hid (Bytes w.heap.size w a0 len0) := hb0
  have HY1 : Hid (Bytes w.heap.size w a1 len1) := hb1
  clear hb0 hb1
  go_enter Try.func3, Try.ntmps3
  go_wp2_with fail
  refine (draw_txnEnd w a0 len0 cap0 h0 HY0.out).mono ?_
  rintro x w1 ⟨p, e, s, u, a, n, q, b, m, r, rs, ls, st, rfl, hf1, hn1, hm1, hst, hb1⟩
  obtain rfl : rs.length = n := hf1.rs.nums.1
  obtain rfl : ls.length = m := hf1.ls.nums.1
  have HX1 : Hid (BX (w1.alloc (txnObj p e s u a rs.length q b ls.length r)) w1.heap.size p e s u a q b r rs ls) := bx_new hf1
  have HL1 : Hid (Below w.heap.size w (w1.alloc (txnObj p e s u a rs.length q b ls.length r))) := tbelow_tr hb1 (tbelow_new _ _)
  clear hf1 hb1
  have HST : Hid (-10 ≤ st ∧ st ≤ 10) := hst
  clear hst
  have HXL : Hid ((endL p e s u rs ls st).length ≤ 100) := show _ ≤ _ by have := endL_len p e s u rs ls st; omega
  have HIE : Hid _ := fun w h => impl_txnEnd (p := p) (e := e) (s := s) (u := u) (ra := a) (la := b) (rl := rs.length) (rc := q) (ll := ls.length) (lc := r) st rs ls w h
  have HSE : Hid _ := fun w h => spec_txnEnd (p := p) (e := e) (s := s) (u := u) (ra := a) (la := b) (rl := rs.length) (rc := q) (ll := ls.length) (lc := r) st rs ls w h
  have HEC : Hid (endS p e s u rs ls st ≠ s → s = 1 ∧ endL p e s u rs ls st = rs ∧ endS p e s u rs ls st ≠ 1) := fun h => by
    unfold endS at h ⊢
    by_cases hc : endC p e s u rs ls st = true
    · rw [if_pos hc] at h ⊢
      have hh := hc
      simp [endC] at hh
      exact ⟨hh.1.2, by simp [endL, hc], by omega⟩
    · rw [if_neg hc] at h
      exact absurd rfl h
  obtain ⟨XS, hXS⟩ : ∃ XS, endS p e s u rs ls st = XS := ⟨_, rfl⟩
  obtain ⟨XL, hXL⟩ : ∃ XL, endL p e s u rs ls st = XL := ⟨_, rfl⟩
  rw [hXS, hXL] at HIE HSE HEC
  rw [hXL] at HXL
  clear hXS hXL
  have hxl := HXL.out
  unfold TAns at HIE HSE
  go_wp2_with fail
  refine (HIE.out _ HX1.out.fit).mono ?_
  rintro x w2 ⟨a2, q2, b2, r2, rfl, ho2, hb2⟩
  have HX2 : Hid (BX (w2.alloc (txnObj p e XS u a2 rs.length q2 b2 XL.length r2)) w2.heap.size p e XS u a2 q2 b2 r2 rs XL) := bx_new (ho2.fit (by omega) (by omega))
  have HX2t : Hid (BX (w2.alloc (txnObj p e XS u a2 rs.length q2 b2 XL.length r2)) w1.heap.size p e s u a q b r rs ls) := (HX1.out.under hb2).under (tbelow_new _ _)
  have HL2 : Hid (Below w.heap.size w (w2.alloc (txnObj p e XS u a2 rs.length q2 b2 XL.length r2))) := tbelow_tr (tbelow_tr HL1.out hb2) (tbelow_new _ _)
  clear ho2 hb2 HX1 HL1
  go_wp2_with fail
  refine (draw_txnTouch _ a1 len1 cap1 h1 (bytes_more (bytes_below HY1.out HL2.out (Nat.le_refl _)) HL2.out.size)).mono ?_
  rintro x w3 ⟨p', e', s', u', a3, n3, q3, b3, m3, r3, rs', ls', g, rfl, hf3, hn3, hm3, _, hb3⟩
  obtain rfl : rs'.length = n3 := hf3.rs.nums.1
  obtain rfl : ls'.length = m3 := hf3.ls.nums.1
  have HX3 : Hid (BX (w3.alloc (txnObj p' e' s' u' a3 rs'.length q3 b3 ls'.length r3)) w3.heap.size p' e' s' u' a3 q3 b3 r3 rs' ls') := bx_new hf3
  have HX3x : Hid (BX (w3.alloc (txnObj p' e' s' u' a3 rs'.length q3 b3 ls'.length r3)) w2.heap.size p e XS u a2 q2 b2 r2 rs XL) := (HX2.out.under hb3).under (tbelow_new _ _)
  have HX3t : Hid (BX (w3.alloc (txnObj p' e' s' u' a3 rs'.length q3 b3 ls'.length r3)) w1.heap.size p e s u a q b r rs ls) := (HX2t.out.under hb3).under (tbelow_new _ _)
  have HL3 : Hid (Below w.heap.size w (w3.alloc (txnObj p' e' s' u' a3 rs'.length q3 b3 ls'.length r3))) := tbelow_tr (tbelow_tr HL2.out hb3) (tbelow_new _ _)
  clear hf3 hb3 HX2 HX2t HL2
  have HIT : Hid _ := fun w h => impl_txnTouch (p := p') (e := e') (s := s') (u := u') (ra := a3) (la := b3) (rl := rs'.length) (rc := q3) (ll := ls'.length) (lc := r3) g rs' ls' w h
  have HSTT : Hid _ := fun w h => spec_txnTouch (p := p') (e := e') (s := s') (u := u') (ra := a3) (la := b3) (rl := rs'.length) (rc := q3) (ll := ls'.length) (lc := r3) g rs' ls' w h
  have hyl : (touchL p' e' s' u' rs' ls' g).length ≤ 101 := by have := touchL_len p' e' s' u' rs' ls' g; omega
  obtain ⟨YR, hYR⟩ : ∃ YR, touchL p' e' s' u' rs' ls' g = YR := ⟨_, rfl⟩
  rw [hYR] at HIT HSTT hyl
  clear hYR
  unfold TAns at HIT HSTT
  go_wp2_with fail
  refine (HIT.out _ HX3.out.fit).mono ?_
  rintro x w4 ⟨a4, q4, b4, r4, rfl, ho4, hb4⟩
  have HX4 : Hid (BX (w4.alloc (txnObj p' e' s' u' a4 YR.length q4 b4 ls'.length r4)) w4.heap.size p' e' s' u' a4 q4 b4 r4 YR ls') := bx_new (ho4.fit (by omega) (by omega))
  have HX4u : Hid (BX (w4.alloc (txnObj p' e' s' u' a4 YR.length q4 b4 ls'.length r4)) w3.heap.size p' e' s' u' a3 q3 b3 r3 rs' ls') := (HX3.out.under hb4).under (tbelow_new _ _)
  have HX4x : Hid (BX (w4.alloc (txnObj p' e' s' u' a4 YR.length q4 b4 ls'.length r4)) w2.heap.size p e XS u a2 q2 b2 r2 rs XL) := (HX3x.out.under hb4).under (tbelow_new _ _)
  have HX4t : Hid (BX (w4.alloc (txnObj p' e' s' u' a4 YR.length q4 b4 ls'.length r4)) w1.heap.size p e s u a q b r rs ls) := (HX3t.out.under hb4).under (tbelow_new _ _)
  have HL4 : Hid (Below w.heap.size w (w4.alloc (txnObj p' e' s' u' a4 YR.length q4 b4 ls'.length r4))) := tbelow_tr (tbelow_tr HL3.out hb4) (tbelow_new _ _)
  clear ho4 hb4 HX3 HX3x HX3t HL3
  go_upto_region 7 with fail
  obtain ⟨W, hW⟩ : ∃ W, w4.alloc (txnObj p' e' s' u' a4 YR.length q4 b4 ls'.length r4) = W := ⟨_, rfl⟩
  rw [hW] at HX4 HX4u HX4x HX4t HL4 ⊢
  clear hW
  have HIR : Hid _ := fun w h => impl_txnRight (p := p) (e := e) (s := s) (u := u) (ra := a) (la := b) (rl := rs.length) (rc := q) (ll := ls.length) (lc := r) rs ls w h
  have HSR : Hid _ := fun w h => spec_txnRight (p := p) (e := e) (s := s) (u := u) (ra := a) (la := b) (rl := rs.length) (rc := q) (ll := ls.length) (lc := r) rs ls w h
  obtain ⟨R, hR⟩ : ∃ R, txnRightB p e s u rs ls = R := ⟨_, rfl⟩
  rw [hR] at HIR HSR
  have hRR : (R != R) = false := by simp
  clear hR
  obtain ⟨n1, hl1⟩ : ∃ n1, rs.length = n1 := ⟨_, rfl⟩
  have HALL : Hid (BX W w4.heap.size p' e' s' u' a4 q4 b4 r4 YR ls' ∧ BX W w3.heap.size p' e' s' u' a3 q3 b3 r3 rs' ls' ∧ BX W w2.heap.size p e XS u a2 q2 b2 r2 rs XL ∧ BX W w1.heap.size p e s u a q b r rs ls ∧ Below w.heap.size w W) := ⟨HX4.out, HX4u.out, HX4x.out, HX4t.out, HL4.out⟩
  clear HX4 HX4u HX4x HX4t HL4 hl1 n1
  obtain ⟨T10, hT10⟩ : ∃ T, w4.heap.size = T := ⟨_, rfl⟩
  obtain ⟨T8, hT8⟩ : ∃ T, w3.heap.size = T := ⟨_, rfl⟩
  obtain ⟨T7, hT7⟩ : ∃ T, w2.heap.size = T := ⟨_, rfl⟩
  obtain ⟨T5, hT5⟩ : ∃ T, w1.heap.size = T := ⟨_, rfl⟩
  rw [hT10, hT8, hT7, hT5] at HALL
  rw [hT10, hT8, hT7, hT5]
  clear hT10 hT8 hT7 hT5
  have HKP : Hid (∀ wx wy, (BX wx T10 p' e' s' u' a4 q4 b4 r4 YR ls' ∧ BX wx T8 p' e' s' u' a3 q3 b3 r3 rs' ls' ∧ BX wx T7 p e XS u a2 q2 b2 r2 rs XL ∧ BX wx T5 p e s u a q b r rs ls ∧ Below w.heap.size w wx) → Below wx.heap.size wx wy → (BX wy T10 p' e' s' u' a4 q4 b4 r4 YR ls' ∧ BX wy T8 p' e' s' u' a3 q3 b3 r3 rs' ls' ∧ BX wy T7 p e XS u a2 q2 b2 r2 rs XL ∧ BX wy T5 p e s u a q b r rs ls ∧ Below w.heap.size w wy)) := fun wx wy h hb => ⟨h.1.under hb, h.2.1.under hb, h.2.2.1.under hb, h.2.2.2.1.under hb, tbelow_tr h.2.2.2.2 hb⟩
  have hc10 := fun o => HALL.out.1.cells o
  have hc8 := fun o => HALL.out.2.1.cells o
  have hc7 := fun o => HALL.out.2.2.1.cells o
  have hc5 := fun o => HALL.out.2.2.2.1.cells o
  have HA : Hid _ := HKP.out _ _ HALL.out ((Below.refl W.heap.size W).drew)
  go_cut [55] (fun t wc => t = .bool false ∧ Hid (BX wc T10 p' e' s' u' a4 q4 b4 r4 YR ls' ∧ BX wc T8 p' e' s' u' a3 q3 b3 r3 rs' ls' ∧ BX wc T7 p e XS u a2 q2 b2 r2 rs XL ∧ BX wc T5 p e s u a q b r rs ls ∧ Below w.heap.size w wc))
  case first =>
    first | (go_region_with (first
      | (go_at_call 12; refine (HSE.out _ HA.out.2.2.2.1.fit).mono ?_; rintro x w5 ⟨a5, q5, b5, r5, rfl, ho5, hb5⟩; have HA : Hid _ := HKP.out _ _ HA.out hb5; have HO5 : Hid (OwnTxn w5 _ a5 rs.length q5 b5 XL.length r5 (numCells rs) (numCells XL)) := ho5; have hc10 := fun o => HA.out.1.cells o; have hc8 := fun o => HA.out.2.1.cells o; have hc7 := fun o => HA.out.2.2.1.cells o; have hc5 := fun o => HA.out.2.2.2.1.cells o; clear ho5 hb5)
      | (go_at_call 11; refine (lw_txn a7 q7 b7 r7 YR ls' _ HA.out.1.fit.rs.nums (own_nums HO7.out.1) HA.out.1.fit.ls.nums (own_nums HO7.out.2.1) (by omega) (by omega)).mono ?_; rintro x w8 ⟨rfl, hb8⟩; have HA : Hid _ := HKP.out _ _ HA.out hb8; have hc10 := fun o => HA.out.1.cells o; have hc8 := fun o => HA.out.2.1.cells o; have hc7 := fun o => HA.out.2.2.1.cells o; have hc5 := fun o => HA.out.2.2.2.1.cells o; clear hb8)
      | (go_at_call 13; refine (HSTT.out _ HA.out.2.1.fit).mono ?_; rintro x w7 ⟨a7, q7, b7, r7, rfl, ho7, hb7⟩; have HA : Hid _ := HKP.out _ _ HA.out hb7; have HO7 : Hid (OwnTxn w7 _ a7 YR.length q7 b7 ls'.length r7 (numCells YR) (numCells ls')) := ho7; have hc10 := fun o => HA.out.1.cells o; have hc8 := fun o => HA.out.2.1.cells o; have hc7 := fun o => HA.out.2.2.1.cells o; have hc5 := fun o => HA.out.2.2.2.1.cells o; clear ho7 hb7)
      | (go_at_call 11; refine (lw_txn a5 q5 b5 r5 rs XL _ HA.out.2.2.1.fit.rs.nums (own_nums HO5.out.1) HA.out.2.2.1.fit.ls.nums (own_nums HO5.out.2.1) (by omega) (by omega)).mono ?_; rintro x w6 ⟨rfl, hb6⟩; have HA : Hid _ := HKP.out _ _ HA.out hb6; have hc10 := fun o => HA.out.1.cells o; have hc8 := fun o => HA.out.2.1.cells o; have hc7 := fun o => HA.out.2.2.1.cells o; have hc5 := fun o => HA.out.2.2.2.1.cells o; clear hb6)
      | (go_at_call 14; refine (HIR.out _ HA.out.2.2.2.1.fit.tin).mono ?_; rintro x w9 ⟨rfl, hb9⟩; have HA : Hid _ := HKP.out _ _ HA.out hb9; have hc10 := fun o => HA.out.1.cells o; have hc8 := fun o => HA.out.2.1.cells o; have hc7 := fun o => HA.out.2.2.1.cells o; have hc5 := fun o => HA.out.2.2.2.1.cells o; clear hb9)
      | (go_at_call 15; refine (HSR.out _ HA.out.2.2.2.1.fit.tin).mono ?_; rintro x w10 ⟨rfl, hb10⟩; have HA : Hid _ := HKP.out _ _ HA.out hb10; have hc10 := fun o => HA.out.1.cells o; have hc8 := fun o => HA.out.2.1.cells o; have hc7 := fun o => HA.out.2.2.1.cells o; have hc5 := fun o => HA.out.2.2.2.1.cells o; clear hb10))) | fail
    all_goals (go_wp2_with fail; go_meet; exact ⟨rfl, HA⟩)
  case rest =>
  obtain ⟨rfl, HAc⟩ := hcut
  clear HALL HA hc10 hc8 hc7 hc5 HSE HSTT HIR hRR HIT
  have hc7 := fun o => HAc.out.2.2.1.cells o
  have hc5 := fun o => HAc.out.2.2.2.1.cells o
  go_wp2_with fail
  refine (HSR.out _ HAc.out.2.2.2.1.fit.tin).mono ?_
  rintro x wd ⟨rfl, hbd⟩
  have HA : Hid _ := HKP.out _ _ HAc.out hbd
  clear hbd HAc hc7 hc5 HSR
  have hc7 := fun o => HA.out.2.2.1.cells o
  have hc5 := fun o => HA.out.2.2.2.1.cells o
  cases R
  · go_wp2
    go_ret
    exact ⟨rfl, HA.out.2.2.2.2⟩
  · by_cases hxs : XS = s
    · have hxb : (XS == s) = true := by simpa using hxs
      clear hxs HEC
      go_wp2
      go_ret
      exact ⟨rfl, HA.out.2.2.2.2⟩
    · have hxb : (XS == s) = false := by simpa using hxs
      obtain ⟨k1, k2, k3⟩ := HEC.out hxs
      subst k1
      subst k2
      have HNE : Hid (XS ≠ 1) := k3
      clear HEC k3 hxs
      have hst1 : -10 ≤ st := HST.out.1
      have hst2 : st ≤ 10 := HST.out.2
      have hW5 : IntKind.i64.wrap (5 - st) = 5 - st := twrap_in _ (by omega) (by omega)
      have HI2 : Hid _ := fun w h => impl_txnEnd (p := p) (e := e) (s := XS) (u := u) (ra := a2) (la := b2) (rl := XL.length) (rc := q2) (ll := XL.length) (lc := r2) (5 - st) XL XL w h
      have hE2 : endC p e XS u XL XL (5 - st) = false := by
        have := HNE.out
        simp [endC, this]
      rw [show endS p e XS u XL XL (5 - st) = XS by simp [endS, hE2], show endL p e XS u XL XL (5 - st) = XL by simp [endL, hE2]] at HI2
      clear hE2
      unfold TAns at HI2
      have HAd : Hid _ := HKP.out _ _ HA.out ((Below.refl wd.heap.size wd).drew)
      clear HA
      have HA : Hid _ := HAd.out
      clear HAd
      go_upto_region 11 with fail
      go_cut [4] (fun t wc => t = .bool true ∧ Hid (Below w.heap.size w wc))
      case first =>
        first | (go_region_with (first
          | (go_at_call 16; refine (lw_nums b2 a XL.length r2 q XL _ HA.out.2.2.1.fit.ls.nums HA.out.2.2.2.1.fit.rs.nums (by omega)).mono ?_; rintro x w6 ⟨rfl, hb6⟩; have HA : Hid _ := HKP.out _ _ HA.out hb6; have hc7 := fun o => HA.out.2.2.1.cells o; have hc5 := fun o => HA.out.2.2.2.1.cells o; clear hb6)
          | (go_at_call 8; refine (HI2.out _ HA.out.2.2.1.fit).mono ?_; rintro x w7 ⟨a7, q7, b7, r7, rfl, ho7, hb7⟩; have HA : Hid _ := HKP.out _ _ HA.out hb7; have HO7 : Hid (OwnTxn w7 _ a7 XL.length q7 b7 XL.length r7 (numCells XL) (numCells XL)) := ho7; have hc7 := fun o => HA.out.2.2.1.cells o; have hc5 := fun o => HA.out.2.2.2.1.cells o; clear ho7 hb7)
          | (go_at_call 11; refine (lw_txn a2 q2 b2 r2 XL XL _ (own_nums HO7.out.1) HA.out.2.2.1.fit.rs.nums (own_nums HO7.out.2.1) HA.out.2.2.1.fit.ls.nums (by omega) (by omega)).mono ?_; rintro x w8 ⟨rfl, hb8⟩; have HA : Hid _ := HKP.out _ _ HA.out hb8; have hc7 := fun o => HA.out.2.2.1.cells o; have hc5 := fun o => HA.out.2.2.2.1.cells o; clear hb8))) | fail
        all_goals (go_wp2_with fail; go_meet; exact ⟨rfl, HA.out.2.2.2.2⟩)
      case rest =>
      obtain ⟨rfl, hS⟩ := hcut
      go_wp2
      go_ret
      exact ⟨rfl, hS.out⟩
theorem law_fnTxn (a0 : Option Addr) (len0 cap0 : Nat) (z0 : List Int) (a1 : Option Addr) (len1 cap1 : Nat) (z1 : List Int) (w : World) (w0 : IsRow .u8 w a0 len0 cap0 z0) (w1 : IsRow .u8 w a1 len1 cap1 z1) :
    Calls Try.prog 3 #[.slice a0 len0 cap0, .slice a1 len1 cap1] w fun e w' => e = .returned (.bool true) ∧ Below w.heap.size w w' := by
  by_cases h0 : len0 ≤ 1048576
  · by_cases h1 : len1 ≤ 1048576
    · exact law_fnTxn_in a0 len0 cap0 a1 len1 cap1 w h0 h1 (bytes_in w0) (bytes_in w1)
    · have hm : len1 ≤ 9223372036854775807 := by
        rcases w1 with ⟨_, h, _, _⟩ | ⟨_, _, h2, h3, _⟩
        · omega
        · unfold maxLen at h3; omega
      have HM : Hid (len1 ≤ 9223372036854775807) := hm
      clear w0 w1 hm
      go_enter Try.func3, Try.ntmps3
      go_wp2
      go_ret
      exact ⟨rfl, Below.refl _ _⟩
  · clear w0 w1
    go_enter Try.func3, Try.ntmps3
    go_wp2
    go_ret
    exact ⟨rfl, Below.refl _ _⟩
end Go.Proofs.Ytgjomkgbpfklkaa
