/- The law of TxnEnd. -/
import Derived.Test.YtgjomkgbpfklkaaLawTxnOut0
import Derived.Deep.DeepCutAuto
namespace Go.Proofs.Ytgjomkgbpfklkaa
open Go.RowKit
theorem end_len (tp te ts tu : Int) (rz lz : List Int) (st : Int) : rz.length ≤ rz.length ∧ (endL tp te ts tu rz lz st).length ≤ max rz.length lz.length := by
  unfold endL
  split <;> omega
set_option maxRecDepth 100000 in
set_option maxHeartbeats 2000000 in
theorem law_txnEnd (tp te ts tu : Int) (ra : Option Addr) (rl rc : Nat) (la : Option Addr) (ll lc : Nat) (rz lz : List Int) (st : Int) (w : World) (hi : LTIn w ra rl la ll rz lz) (_hg : (Lit.int .i64 st).wf = true) :
    Calls Try.prog 5 #[txnV tp te ts tu ra rl rc la ll lc, .int .i64 st] w fun e w' => e = .returned (.bool true) ∧ Below w.heap.size w w' := by
  have HI : Hid (LTIn w ra rl la ll rz lz) := hi
  have HZ : Hid _ := fun w (_ : LTIn w ra rl la ll rz lz) => law_szTxn (p := tp) (e := te) (s := ts) (u := tu) (ra := ra) (rl := rl) (rc := rc) (la := la) (ll := ll) (lc := lc) 1048576 w hi.rle hi.lle (by omega)
  have hB0 : Hid (Below w.heap.size w (w.alloc (ltxnObj tp te ts tu ra rl rc la ll lc))) := tbelow_new _ _
  have hL0 : Hid (LTIn (w.alloc (ltxnObj tp te ts tu ra rl rc la ll lc)) ra rl la ll rz lz) := hi.below hB0.out
  have HRL : Hid (rz.length = rl) := hi.rs.1
  have HCL : Hid (lz.length = ll) := hi.ls.1
  clear hi
  by_cases hs : rl + ll ≤ 1048576
  · rw [show txnLeft 1048576 rl ll = ((1048576 - (rl + ll) : Nat) : Int) by rw [txnLeft, if_pos hs]] at HZ
    have hrl : rl ≤ 1048576 := by omega
    have hll : ll ≤ 1048576 := by omega
    obtain ⟨x, hx⟩ : ∃ x, 1048576 - (rl + ll) = x := ⟨_, rfl⟩
    rw [hx] at HZ
    clear hx hs
    have HTO : Hid (∀ w, LTIn w ra rl la ll rz lz → Calls Try.prog 18 #[txnV tp te ts tu ra rl rc la ll lc] w fun e w' => ∃ a c, e = .returned (txnV tp te ts tu (some ⟨a, 0, none⟩) rl rl (some ⟨c, 0, none⟩) ll ll) ∧ OwnTxn w' w.heap.size (some ⟨a, 0, none⟩) rl rl (some ⟨c, 0, none⟩) ll ll (numCells rz) (numCells lz) ∧ Below w.heap.size w w') := fun w h => law_toTxn rz lz w h.rs h.ls hrl hll
    obtain ⟨S, hS⟩ : ∃ S, endS tp te ts tu rz lz st = S := ⟨_, rfl⟩
    obtain ⟨rs, hrs⟩ : ∃ rs, rz = rs := ⟨_, rfl⟩
    obtain ⟨cs, hcs⟩ : ∃ cs, endL tp te ts tu rz lz st = cs := ⟨_, rfl⟩
    have HSP0 : Hid (∀ w a c, TFit w (some ⟨a, 0, none⟩) rl rl (some ⟨c, 0, none⟩) ll ll rz lz → Calls Try.prog 12 #[txnV tp te ts tu (some ⟨a, 0, none⟩) rl rl (some ⟨c, 0, none⟩) ll ll, .int .i64 st] w fun e w' => TAns w w' e tp te S tu rs cs) := fun w a c h => by rw [← hS, ← hrs, ← hcs]; exact spec_txnEnd st rz lz w h
    have HIM0 : Hid (∀ w a c, TFit w (some ⟨a, 0, none⟩) rl rl (some ⟨c, 0, none⟩) ll ll rz lz → Calls Try.prog 8 #[txnV tp te ts tu (some ⟨a, 0, none⟩) rl rl (some ⟨c, 0, none⟩) ll ll, .int .i64 st] w fun e w' => TAns w w' e tp te S tu rs cs) := fun w a c h => by rw [← hS, ← hrs, ← hcs]; exact impl_txnEnd st rz lz w h
    have hlen : rs.length ≤ 2000000 ∧ cs.length ≤ 2000000 := by
      have h := end_len tp te ts tu rz lz st
      have h1 := HRL.out
      have h2 := HCL.out
      rw [← hrs, ← hcs]
      omega
    clear hS hrs hcs
    unfold TAns at HSP0 HIM0
    obtain ⟨n, hn⟩ : ∃ n, rs.length = n := ⟨_, rfl⟩
    obtain ⟨m, hm⟩ : ∃ m, cs.length = m := ⟨_, rfl⟩
    obtain ⟨xs, hxs⟩ : ∃ xs, numCells rs = xs := ⟨_, rfl⟩
    obtain ⟨ys, hys⟩ : ∃ ys, numCells cs = ys := ⟨_, rfl⟩
    simp only [hn, hm, hxs, hys] at HSP0 HIM0 hlen
    have hnl : n ≤ 2000000 := by omega
    have hml : m ≤ 2000000 := by omega
    have HSP : Hid (∀ w a c, TFit w (some ⟨a, 0, none⟩) rl rl (some ⟨c, 0, none⟩) ll ll rz lz → Calls Try.prog 12 #[txnV tp te ts tu (some ⟨a, 0, none⟩) rl rl (some ⟨c, 0, none⟩) ll ll, .int .i64 st] w fun e w' => ∃ a q b p, e = .returned (txnV tp te S tu a n q b m p) ∧ OwnTxn w' w.heap.size a n q b m p xs ys ∧ Below w.heap.size w w') := HSP0.out
    have HIM : Hid (∀ w a c, TFit w (some ⟨a, 0, none⟩) rl rl (some ⟨c, 0, none⟩) ll ll rz lz → Calls Try.prog 8 #[txnV tp te ts tu (some ⟨a, 0, none⟩) rl rl (some ⟨c, 0, none⟩) ll ll, .int .i64 st] w fun e w' => ∃ a q b p, e = .returned (txnV tp te S tu a n q b m p) ∧ OwnTxn w' w.heap.size a n q b m p xs ys ∧ Below w.heap.size w w') := HIM0.out
    have HXS : Hid (numCells rs = xs) := hxs
    have HYS : Hid (numCells cs = ys) := hys
    clear hn hm hxs hys hlen HSP0 HIM0
    have HEQ : Hid (∀ (a q c p a' q' c' p' : _) (b b' : Nat) (u : World), OwnTxn u b a n q c m p xs ys → OwnTxn u b' a' n q' c' m p' xs ys → Calls Try.prog 19 #[txnV tp te S tu a n q c m p, txnV tp te S tu a' n q' c' m p'] u fun e w' => e = .returned (.bool true) ∧ Below u.heap.size u w') := fun a q c p a' q' c' p' b b' u h h' => by
      rw [← HXS.out, ← HYS.out] at h h'
      exact law_eqTxn a' q' c' p' rs cs u (own_nums h.1) (own_nums h'.1) (own_nums h.2.1) (own_nums h'.2.1) (by omega) (by omega)
    clear HXS HYS
    go_enter Try.func5, Try.ntmps5
    go_wp2_with fail
    refine (HZ.out _ hL0.out).mono ?_
    rintro e w1 ⟨rfl, hb1⟩
    have hA1 : Hid (w1.heap[w.heap.size]? = some (ltxnObj tp te ts tu ra rl rc la ll lc)) := tblk (heap_alloc_new _ _) hb1
    have hB1 : Hid (Below w.heap.size w w1) := tbelow_tr hB0.out hb1
    have hcA := fun o => tcell hA1.out o
    clear hb1
    go_wp2_with fail
    refine (HTO.out _ (HI.out.below hB1.out)).mono ?_
    rintro e w2 ⟨a2, c2, rfl, ho2, hb2⟩
    have hA2 : Hid (w2.heap[w.heap.size]? = some (ltxnObj tp te ts tu ra rl rc la ll lc)) := tblk hA1.out hb2
    have hB2 : Hid (Below w.heap.size w w2) := tbelow_tr hB1.out hb2
    have hO2 : Hid (TFit w2 (some ⟨a2, 0, none⟩) rl rl (some ⟨c2, 0, none⟩) ll ll rz lz) := own_tfit ho2 hrl hll
    clear hb2 ho2 hcA
    go_wp2_with fail
    refine (HSP.out _ a2 c2 hO2.out).mono ?_
    rintro e w3 ⟨a3, q3, c3, p3, rfl, ho3, hb3⟩
    have HA3 : Hid (TKA w (w3.alloc (txnObj tp te S tu a3 n q3 c3 m p3)) (ltxnObj tp te ts tu ra rl rc la ll lc) (txnObj tp te S tu a3 n q3 c3 m p3) w3.heap.size a3 n q3 c3 m p3 xs ys) := TKA.mk0 (tblk hA2.out hb3) (tbelow_tr hB2.out hb3) ho3 hB2.out.size
    clear hb3 ho3 hA1 hA2 hB1 hB2 hO2
    have hcA := fun o => tcell HA3.out.ba o
    have hcB := fun o => tcell HA3.out.bb o
    go_wp2_with fail
    refine (HTO.out _ (HI.out.below HA3.out.blo)).mono ?_
    rintro e w4 ⟨a4, c4, rfl, ho4, hb4⟩
    have HA4 : Hid (TKA w (w4.alloc (txnObj tp te ts tu (some ⟨a4, 0, none⟩) rl rl (some ⟨c4, 0, none⟩) ll ll)) (ltxnObj tp te ts tu ra rl rc la ll lc) (txnObj tp te S tu a3 n q3 c3 m p3) w3.heap.size a3 n q3 c3 m p3 xs ys) := (HA3.out.below hb4).below (tbelow_new _ _)
    have HX4 : Hid (TKR (w4.alloc (txnObj tp te ts tu (some ⟨a4, 0, none⟩) rl rl (some ⟨c4, 0, none⟩) ll ll)) w3.heap.size w4.heap.size (txnObj tp te ts tu (some ⟨a4, 0, none⟩) rl rl (some ⟨c4, 0, none⟩) ll ll) (some ⟨a4, 0, none⟩) rl rl (some ⟨c4, 0, none⟩) ll ll (numCells rz) (numCells lz)) := TKR.mk0 ho4 hb4
    have HWX : Hid (w3.heap.size ≤ w4.heap.size) := Nat.le_of_lt HX4.out.lt
    have hO4 : Hid (TFit (w4.alloc (txnObj tp te ts tu (some ⟨a4, 0, none⟩) rl rl (some ⟨c4, 0, none⟩) ll ll)) (some ⟨a4, 0, none⟩) rl rl (some ⟨c4, 0, none⟩) ll ll rz lz) := own_tfit HX4.out.own hrl hll
    clear hb4 ho4 HA3 hcA hcB
    have hcA := fun o => tcell HA4.out.ba o
    have hcB := fun o => tcell HA4.out.bb o
    have hcX := fun o => tcell HX4.out.bo o
    go_wp2_with fail
    refine (HIM.out _ a4 c4 hO4.out).mono ?_
    rintro e w5 ⟨a5, q5, c5, p5, rfl, ho5, hb5⟩
    have HA5 : Hid (TKA w (w5.alloc (txnObj tp te S tu a5 n q5 c5 m p5)) (ltxnObj tp te ts tu ra rl rc la ll lc) (txnObj tp te S tu a3 n q3 c3 m p3) w3.heap.size a3 n q3 c3 m p3 xs ys) := (HA4.out.below hb5).below (tbelow_new _ _)
    have HX5 : Hid (TKR (w5.alloc (txnObj tp te S tu a5 n q5 c5 m p5)) w3.heap.size w4.heap.size (txnObj tp te ts tu (some ⟨a4, 0, none⟩) rl rl (some ⟨c4, 0, none⟩) ll ll) (some ⟨a4, 0, none⟩) rl rl (some ⟨c4, 0, none⟩) ll ll (numCells rz) (numCells lz)) := (HX4.out.below hb5).below (tbelow_new _ _)
    have HG5 : Hid (TKR (w5.alloc (txnObj tp te S tu a5 n q5 c5 m p5)) w4.heap.size w5.heap.size (txnObj tp te S tu a5 n q5 c5 m p5) a5 n q5 c5 m p5 xs ys) := TKR.mk0 ho5 hb5
    clear hb5 ho5 HA4 HX4 hO4 hcA hcB hcX
    have hcA := fun o => tcell HA5.out.ba o
    have hcB := fun o => tcell HA5.out.bb o
    have hcX := fun o => tcell HX5.out.bo o
    have hcG := fun o => tcell HG5.out.bo o
    go_wp2_with fail
    refine (HEQ.out _ _ _ _ _ _ _ _ _ _ _ HG5.out.own HA5.out.own).mono ?_
    rintro e w6 ⟨rfl, hb6⟩
    have HA6 : Hid (TKA w w6 (ltxnObj tp te ts tu ra rl rc la ll lc) (txnObj tp te S tu a3 n q3 c3 m p3) w3.heap.size a3 n q3 c3 m p3 xs ys) := HA5.out.below hb6
    have HX6 : Hid (TKR w6 w3.heap.size w4.heap.size (txnObj tp te ts tu (some ⟨a4, 0, none⟩) rl rl (some ⟨c4, 0, none⟩) ll ll) (some ⟨a4, 0, none⟩) rl rl (some ⟨c4, 0, none⟩) ll ll (numCells rz) (numCells lz)) := HX5.out.below hb6
    have HG6 : Hid (TKR w6 w4.heap.size w5.heap.size (txnObj tp te S tu a5 n q5 c5 m p5) a5 n q5 c5 m p5 xs ys) := HG5.out.below hb6
    clear hb6 HA5 HX5 HG5 hcA hcB hcX hcG
    have hcA := fun o => tcell HA6.out.ba o
    have hcB := fun o => tcell HA6.out.bb o
    have hcX := fun o => tcell HX6.out.bo o
    have hcG := fun o => tcell HG6.out.bo o
    go_upto_region 10 with fail
    go_cut [35] (fun t wc => t = .bool false ∧ Hid (TKA w wc (ltxnObj tp te ts tu ra rl rc la ll lc) (txnObj tp te S tu a3 n q3 c3 m p3) w3.heap.size a3 n q3 c3 m p3 xs ys) ∧ Hid (TKR wc w3.heap.size w4.heap.size (txnObj tp te ts tu (some ⟨a4, 0, none⟩) rl rl (some ⟨c4, 0, none⟩) ll ll) (some ⟨a4, 0, none⟩) rl rl (some ⟨c4, 0, none⟩) ll ll (numCells rz) (numCells lz)) ∧ Hid (TKR wc w4.heap.size w5.heap.size (txnObj tp te S tu a5 n q5 c5 m p5) a5 n q5 c5 m p5 xs ys))
    case first =>
      go_region_with (first
        | (go_at_call 18; refine (HTO.out _ (HI.out.below HA6.out.blo.drew)).mono ?_; rintro e w7 ⟨a7, c7, rfl, ho7, hb7⟩; have HA7 : Hid (TKA w w7 (ltxnObj tp te ts tu ra rl rc la ll lc) (txnObj tp te S tu a3 n q3 c3 m p3) w3.heap.size a3 n q3 c3 m p3 xs ys) := HA6.out.below (tbelow_tr ((Below.refl _ _).drew) hb7); have HX7 : Hid (TKR w7 w3.heap.size w4.heap.size (txnObj tp te ts tu (some ⟨a4, 0, none⟩) rl rl (some ⟨c4, 0, none⟩) ll ll) (some ⟨a4, 0, none⟩) rl rl (some ⟨c4, 0, none⟩) ll ll (numCells rz) (numCells lz)) := HX6.out.below (tbelow_tr ((Below.refl _ _).drew) hb7); have HG7 : Hid (TKR w7 w4.heap.size w5.heap.size (txnObj tp te S tu a5 n q5 c5 m p5) a5 n q5 c5 m p5 xs ys) := HG6.out.below (tbelow_tr ((Below.refl _ _).drew) hb7); have hO7 : Hid (TIn w7 (some ⟨a7, 0, none⟩) rl (some ⟨c7, 0, none⟩) ll rz lz) := own_tin ho7 hrl hll; have hcA7 := fun o => tcell HA7.out.ba o; have hcX7 := fun o => tcell HX7.out.bo o; clear hb7 ho7)
        | (go_at_call 19; refine (law_eqTxn (some ⟨a7, 0, none⟩) rl (some ⟨c7, 0, none⟩) ll rz lz _ (own_nums HX7.out.own.1) hO7.out.rs (own_nums HX7.out.own.2.1) hO7.out.ls (by omega) (by omega)).mono ?_; rintro e w8 ⟨rfl, hb8⟩; have HA8 : Hid (TKA w w8 (ltxnObj tp te ts tu ra rl rc la ll lc) (txnObj tp te S tu a3 n q3 c3 m p3) w3.heap.size a3 n q3 c3 m p3 xs ys) := HA7.out.below hb8; have HX8 : Hid (TKR w8 w3.heap.size w4.heap.size (txnObj tp te ts tu (some ⟨a4, 0, none⟩) rl rl (some ⟨c4, 0, none⟩) ll ll) (some ⟨a4, 0, none⟩) rl rl (some ⟨c4, 0, none⟩) ll ll (numCells rz) (numCells lz)) := HX7.out.below hb8; have HG8 : Hid (TKR w8 w4.heap.size w5.heap.size (txnObj tp te S tu a5 n q5 c5 m p5) a5 n q5 c5 m p5 xs ys) := HG7.out.below hb8; clear hb8))
      all_goals (go_wp2_with fail; go_meet; exact ⟨rfl, HA8, HX8, HG8⟩)
    case rest =>
    obtain ⟨rfl, HA8, HX8, HG8⟩ := hcut
    clear HA6 HX6 HG6 hcA hcB hcX hcG
    have hcA := fun o => tcell HA8.out.ba o
    have hcB := fun o => tcell HA8.out.bb o
    have hcX := fun o => tcell HX8.out.bo o
    have hcG := fun o => tcell HG8.out.bo o
    go_wp2_with fail
    refine (law_markTxn _ _ _ 1 _ HX8.out.own (by omega) (by omega)).mono ?_
    rintro e w9 ⟨rfl, _, hg9⟩
    have HA9 : Hid (TKA w w9 (ltxnObj tp te ts tu ra rl rc la ll lc) (txnObj tp te S tu a3 n q3 c3 m p3) w3.heap.size a3 n q3 c3 m p3 xs ys) := HA8.out.mark HX8.out (Nat.le_refl _) hg9
    have HG9 : Hid (TKR w9 w4.heap.size w5.heap.size (txnObj tp te S tu a5 n q5 c5 m p5) a5 n q5 c5 m p5 xs ys) := HG8.out.mark2 HX8.out (Nat.le_refl _) hg9
    clear hg9 HA8 HX8 HG8 hcA hcB hcX hcG
    have hcA := fun o => tcell HA9.out.ba o
    have hcB := fun o => tcell HA9.out.bb o
    have hcG := fun o => tcell HG9.out.bo o
    go_wp2_with fail
    refine (HEQ.out _ _ _ _ _ _ _ _ _ _ _ HG9.out.own HA9.out.own).mono ?_
    rintro e w10 ⟨rfl, hb10⟩
    have HA10 : Hid (TKA w w10 (ltxnObj tp te ts tu ra rl rc la ll lc) (txnObj tp te S tu a3 n q3 c3 m p3) w3.heap.size a3 n q3 c3 m p3 xs ys) := HA9.out.below hb10
    have HG10 : Hid (TKR w10 w4.heap.size w5.heap.size (txnObj tp te S tu a5 n q5 c5 m p5) a5 n q5 c5 m p5 xs ys) := HG9.out.below hb10
    clear hb10 HA9 HG9 hcA hcB hcG
    have hcA := fun o => tcell HA10.out.ba o
    have hcB := fun o => tcell HA10.out.bb o
    have hcG := fun o => tcell HG10.out.bo o
    go_wp2_with fail
    refine (law_markTxn _ _ _ 1 _ HG10.out.own (by omega) (by omega)).mono ?_
    rintro e w11 ⟨rfl, ho11, hg11⟩
    have HA11 : Hid (TKA w w11 (ltxnObj tp te ts tu ra rl rc la ll lc) (txnObj tp te S tu a3 n q3 c3 m p3) w3.heap.size a3 n q3 c3 m p3 xs ys) := HA10.out.mark HG10.out HWX.out hg11
    have HG11 : Hid (TKR w11 w4.heap.size w5.heap.size (txnObj tp te S tu a5 n q5 c5 m p5) a5 n q5 c5 m p5 (mNum 1 xs n) (mNum (1 + n) ys m)) := HG10.out.mark ho11 hg11
    clear hg11 ho11 HA10 HG10 hcA hcB hcG
    have hcA := fun o => tcell HA11.out.ba o
    have hcB := fun o => tcell HA11.out.bb o
    have hcG := fun o => tcell HG11.out.bo o
    go_wp2_with fail
    refine (law_heldTxn _ _ _ 1 _ HG11.out.own (by omega) (by omega)).mono ?_
    rintro e w12 ⟨rfl, hb12⟩
    have HA12 : Hid (TKA w w12 (ltxnObj tp te ts tu ra rl rc la ll lc) (txnObj tp te S tu a3 n q3 c3 m p3) w3.heap.size a3 n q3 c3 m p3 xs ys) := HA11.out.below hb12
    have HG12 : Hid (TKR w12 w4.heap.size w5.heap.size (txnObj tp te S tu a5 n q5 c5 m p5) a5 n q5 c5 m p5 (mNum 1 xs n) (mNum (1 + n) ys m)) := HG11.out.below hb12
    clear hb12 HA11 HG11 hcA hcB hcG
    have hcA := fun o => tcell HA12.out.ba o
    have hcB := fun o => tcell HA12.out.bb o
    have hcG := fun o => tcell HG12.out.bo o
    have hk0 : ¬ (((1 + n + m : Nat) : Int) < 0) := by omega
    go_wp2_with fail
    refine (HTO.out _ (HI.out.below HA12.out.blo)).mono ?_
    rintro e w13 ⟨a13, c13, rfl, ho13, hb13⟩
    have HA13 : Hid (TKA w w13 (ltxnObj tp te ts tu ra rl rc la ll lc) (txnObj tp te S tu a3 n q3 c3 m p3) w3.heap.size a3 n q3 c3 m p3 xs ys) := HA12.out.below hb13
    have HG13 : Hid (TKR w13 w4.heap.size w5.heap.size (txnObj tp te S tu a5 n q5 c5 m p5) a5 n q5 c5 m p5 (mNum 1 xs n) (mNum (1 + n) ys m)) := HG12.out.below hb13
    have hO13 : Hid (TFit w13 (some ⟨a13, 0, none⟩) rl rl (some ⟨c13, 0, none⟩) ll ll rz lz) := own_tfit ho13 hrl hll
    clear hb13 ho13 HA12 HG12 hcA hcB hcG
    have hcA := fun o => tcell HA13.out.ba o
    have hcB := fun o => tcell HA13.out.bb o
    have hcG := fun o => tcell HG13.out.bo o
    go_wp2_with fail
    refine (HIM.out _ a13 c13 hO13.out).mono ?_
    rintro e w14 ⟨a14, q14, c14, p14, rfl, ho14, hb14⟩
    have HA14 : Hid (TKA w (w14.alloc (txnObj tp te S tu a14 n q14 c14 m p14)) (ltxnObj tp te ts tu ra rl rc la ll lc) (txnObj tp te S tu a3 n q3 c3 m p3) w3.heap.size a3 n q3 c3 m p3 xs ys) := (HA13.out.below hb14).below (tbelow_new _ _)
    have HG14 : Hid (TKR (w14.alloc (txnObj tp te S tu a14 n q14 c14 m p14)) w4.heap.size w5.heap.size (txnObj tp te S tu a5 n q5 c5 m p5) a5 n q5 c5 m p5 (mNum 1 xs n) (mNum (1 + n) ys m)) := (HG13.out.below hb14).below (tbelow_new _ _)
    have HO14 : Hid (OwnTxn (w14.alloc (txnObj tp te S tu a14 n q14 c14 m p14)) w13.heap.size a14 n q14 c14 m p14 xs ys) := ho14.below (tbelow_new _ _)
    clear hb14 ho14 HA13 HG13 hcA hcB hcG
    have hcA := fun o => tcell HA14.out.ba o
    have hcB := fun o => tcell HA14.out.bb o
    have hcG := fun o => tcell HG14.out.bo o
    go_wp2_with fail
    refine (HEQ.out _ _ _ _ _ _ _ _ _ _ _ HO14.out HA14.out.own).mono ?_
    rintro e w15 ⟨rfl, hb15⟩
    have HA15 : Hid (TKA w w15 (ltxnObj tp te ts tu ra rl rc la ll lc) (txnObj tp te S tu a3 n q3 c3 m p3) w3.heap.size a3 n q3 c3 m p3 xs ys) := HA14.out.below hb15
    have HG15 : Hid (TKR w15 w4.heap.size w5.heap.size (txnObj tp te S tu a5 n q5 c5 m p5) a5 n q5 c5 m p5 (mNum 1 xs n) (mNum (1 + n) ys m)) := HG14.out.below hb15
    clear hb15 HA14 HG14 HO14 hcA hcB hcG
    have hcA := fun o => tcell HA15.out.ba o
    have hcB := fun o => tcell HA15.out.bb o
    have hcG := fun o => tcell HG15.out.bo o
    go_wp2_with fail
    refine (law_heldTxn _ _ _ 1 _ HG15.out.own (by omega) (by omega)).mono ?_
    rintro e w16 ⟨rfl, hb16⟩
    have HB16 : Hid (Below w.heap.size w w16) := tbelow_tr HA15.out.blo hb16
    clear hb16 HA15 HG15 hcA hcB hcG
    go_wp2
    go_ret
    exact ⟨rfl, HB16.out⟩
  · rw [show txnLeft 1048576 rl ll = -1 by rw [txnLeft, if_neg hs]] at HZ
    clear hs
    go_enter Try.func5, Try.ntmps5
    go_wp2_with fail
    refine (HZ.out _ hL0.out).mono ?_
    rintro e w1 ⟨rfl, hb1⟩
    have hB1 : Hid (Below w.heap.size w w1) := tbelow_tr hB0.out hb1
    clear hb1
    go_wp2
    go_ret
    exact ⟨rfl, hB1.out⟩
end Go.Proofs.Ytgjomkgbpfklkaa
