/- The law of TxnRight. -/
import Derived.Test.YtgjomkgbpfklkaaTxnArg
import Derived.Deep.DeepCutAuto
namespace Go.Proofs.Ytgjomkgbpfklkaa
open Go.RowKit
theorem own_tin {w : World} {base a c rl ll : Nat} {rs ls : List Int} (h : OwnTxn w base (some ⟨a, 0, none⟩) rl rl (some ⟨c, 0, none⟩) ll ll (numCells rs) (numCells ls)) (hr : rl ≤ 1048576) (hl : ll ≤ 1048576) : TIn w (some ⟨a, 0, none⟩) rl (some ⟨c, 0, none⟩) ll rs ls :=
  ⟨own_nums h.1, own_nums h.2.1, hr, hl⟩
set_option maxHeartbeats 2000000 in
theorem law_txnRight (p e s u : Int) (ra : Option Addr) (rl rc : Nat) (la : Option Addr) (ll lc : Nat) (rs ls : List Int) (w : World) (hi : LTIn w ra rl la ll rs ls) :
    Calls Try.prog 4 #[txnV p e s u ra rl rc la ll lc] w fun x w' => x = .returned (.bool true) ∧ Below w.heap.size w w' := by
  have HI : Hid (LTIn w ra rl la ll rs ls) := hi
  have HZ : Hid _ := fun w => law_szTxn (p := p) (e := e) (s := s) (u := u) (ra := ra) (rl := rl) (rc := rc) (la := la) (ll := ll) (lc := lc) 1048576 w hi.rle hi.lle (by omega)
  have hB0 : Hid (Below w.heap.size w (w.alloc (ltxnObj p e s u ra rl rc la ll lc))) := tbelow_new _ _
  clear hi
  by_cases hs : rl + ll ≤ 1048576
  · rw [show txnLeft 1048576 rl ll = ((1048576 - (rl + ll) : Nat) : Int) by rw [txnLeft, if_pos hs]] at HZ
    have hrl : rl ≤ 1048576 := by omega
    have hll : ll ≤ 1048576 := by omega
    obtain ⟨x, hx⟩ : ∃ x, 1048576 - (rl + ll) = x := ⟨_, rfl⟩
    rw [hx] at HZ
    clear hx hs
    have HTO : Hid (∀ w, LTIn w ra rl la ll rs ls → Calls Try.prog 18 #[txnV p e s u ra rl rc la ll lc] w fun x w' => ∃ a c, x = .returned (txnV p e s u (some ⟨a, 0, none⟩) rl rl (some ⟨c, 0, none⟩) ll ll) ∧ OwnTxn w' w.heap.size (some ⟨a, 0, none⟩) rl rl (some ⟨c, 0, none⟩) ll ll (numCells rs) (numCells ls) ∧ Below w.heap.size w w') := fun w h => law_toTxn rs ls w h.rs h.ls hrl hll
    have HSP : Hid (∀ w a c, TIn w (some ⟨a, 0, none⟩) rl (some ⟨c, 0, none⟩) ll rs ls → Calls Try.prog 15 #[txnV p e s u (some ⟨a, 0, none⟩) rl rl (some ⟨c, 0, none⟩) ll ll] w fun x w' => x = .returned (.bool (txnRightB p e s u rs ls)) ∧ Below w.heap.size w w') := fun w a c h => spec_txnRight rs ls w h
    have HIM : Hid (∀ w a c, TIn w (some ⟨a, 0, none⟩) rl (some ⟨c, 0, none⟩) ll rs ls → Calls Try.prog 14 #[txnV p e s u (some ⟨a, 0, none⟩) rl rl (some ⟨c, 0, none⟩) ll ll] w fun x w' => x = .returned (.bool (txnRightB p e s u rs ls)) ∧ Below w.heap.size w w') := fun w a c h => impl_txnRight rs ls w h
    obtain ⟨R, hR⟩ : ∃ R, txnRightB p e s u rs ls = R := ⟨_, rfl⟩
    rw [hR] at HSP HIM
    have hRR : (R != R) = false := by simp
    clear hR
    go_enter Try.func4, Try.ntmps4
    go_wp2_with fail
    refine (HZ.out _).mono ?_
    rintro y w1 ⟨rfl, hb1⟩
    have hA1 : Hid (w1.heap[w.heap.size]? = some (ltxnObj p e s u ra rl rc la ll lc)) := tblk (heap_alloc_new _ _) hb1
    have hc1 := fun o => tcell hA1.out o
    have hB1 : Hid (Below w.heap.size w w1) := tbelow_tr hB0.out hb1
    clear hb1
    go_wp2_with fail
    refine (HTO.out _ (HI.out.below hB1.out)).mono ?_
    rintro y w2 ⟨a2, c2, rfl, ho2, hb2⟩
    have hA2 : Hid (w2.heap[w.heap.size]? = some (ltxnObj p e s u ra rl rc la ll lc)) := tblk hA1.out hb2
    have hB2 : Hid (Below w.heap.size w w2) := tbelow_tr hB1.out hb2
    have hO2 : Hid (TIn w2 (some ⟨a2, 0, none⟩) rl (some ⟨c2, 0, none⟩) ll rs ls) := own_tin ho2 hrl hll
    clear hb2 ho2 hc1 hA1
    go_wp2_with fail
    refine (HSP.out _ a2 c2 hO2.out).mono ?_
    rintro y w3 ⟨rfl, hb3⟩
    have hA3 : Hid (w3.heap[w.heap.size]? = some (ltxnObj p e s u ra rl rc la ll lc)) := tblk hA2.out hb3
    have hc3 := fun o => tcell hA3.out o
    have hB3 : Hid (Below w.heap.size w w3) := tbelow_tr hB2.out hb3
    clear hb3 hA2
    go_wp2_with fail
    refine (HTO.out _ (HI.out.below hB3.out)).mono ?_
    rintro y w4 ⟨a4, c4, rfl, ho4, hb4⟩
    have hA4 : Hid (w4.heap[w.heap.size]? = some (ltxnObj p e s u ra rl rc la ll lc)) := tblk hA3.out hb4
    have hB4 : Hid (Below w.heap.size w w4) := tbelow_tr hB3.out hb4
    have hO4 : Hid (TIn w4 (some ⟨a4, 0, none⟩) rl (some ⟨c4, 0, none⟩) ll rs ls) := own_tin ho4 hrl hll
    clear hb4 ho4 hc3 hA3
    have hB4' : Hid (Below w4.heap.size w4 (w4.alloc (txnObj p e s u (some ⟨a4, 0, none⟩) rl rl (some ⟨c4, 0, none⟩) ll ll))) := tbelow_new _ _
    have hA4' : Hid ((w4.alloc (txnObj p e s u (some ⟨a4, 0, none⟩) rl rl (some ⟨c4, 0, none⟩) ll ll)).heap[w.heap.size]? = some (ltxnObj p e s u ra rl rc la ll lc)) := tblk hA4.out hB4'.out
    go_wp2_with fail
    refine (HIM.out _ a4 c4 (hO4.out.below hB4'.out)).mono ?_
    rintro y w5 ⟨rfl, hb5⟩
    have hA5 : Hid (w5.heap[w.heap.size]? = some (ltxnObj p e s u ra rl rc la ll lc)) := tblk hA4'.out hb5
    have hX5 : Hid (w5.heap[w4.heap.size]? = some (txnObj p e s u (some ⟨a4, 0, none⟩) rl rl (some ⟨c4, 0, none⟩) ll ll)) := tblk (heap_alloc_new _ _) hb5
    have hc5 := fun o => tcell hA5.out o
    have hd5 := fun o => tcell hX5.out o
    have hO5 : Hid (TIn w5 (some ⟨a4, 0, none⟩) rl (some ⟨c4, 0, none⟩) ll rs ls) := (hO4.out.below hB4'.out).below hb5
    have hB5 : Hid (Below w.heap.size w w5) := tbelow_tr (tbelow_tr hB4.out hB4'.out) hb5
    clear hb5 hA4 hA4' hB4'
    go_upto_region 10 with fail
    go_cut [26] (fun t wc => t = .bool false ∧ Hid (Below w.heap.size w wc))
    case first =>
      go_region_with (first
        | (go_at_call 18; refine (HTO.out _ (HI.out.below hB5.out.drew)).mono ?_; rintro y w6 ⟨a6, c6, rfl, ho6, hb6⟩; have hX6 : Hid (w6.heap[w4.heap.size]? = some (txnObj p e s u (some ⟨a4, 0, none⟩) rl rl (some ⟨c4, 0, none⟩) ll ll)) := tblk (show w5.drew.heap[w4.heap.size]? = _ from hX5.out) hb6; have hd6 := fun o => tcell hX6.out o; have hB6 : Hid (Below w.heap.size w w6) := tbelow_tr hB5.out.drew hb6; have hO6 : Hid (TIn w6 (some ⟨a6, 0, none⟩) rl (some ⟨c6, 0, none⟩) ll rs ls) := own_tin ho6 hrl hll; have hP6 : Hid (TIn w6 (some ⟨a4, 0, none⟩) rl (some ⟨c4, 0, none⟩) ll rs ls) := hO5.out.below (tbelow_tr ((Below.refl _ _).drew) hb6); clear hb6 ho6)
        | (go_at_call 19; refine (law_eqTxn (some ⟨a6, 0, none⟩) rl (some ⟨c6, 0, none⟩) ll rs ls _ hP6.out.rs hO6.out.rs hP6.out.ls hO6.out.ls (by omega) (by omega)).mono ?_; rintro y w7 ⟨rfl, hb7⟩; have hB7 : Hid (Below w.heap.size w w7) := tbelow_tr hB6.out hb7; clear hb7))
      all_goals (go_wp2_with fail; go_meet; exact ⟨rfl, hB7.out⟩)
    case rest =>
    obtain ⟨rfl, hBc⟩ := hcut
    go_wp2
    go_ret
    exact ⟨rfl, hBc.out⟩
  · rw [show txnLeft 1048576 rl ll = -1 by rw [txnLeft, if_neg hs]] at HZ
    clear hs
    go_enter Try.func4, Try.ntmps4
    go_wp2_with fail
    refine (HZ.out _).mono ?_
    rintro y w1 ⟨rfl, hb1⟩
    have hB1 : Hid (Below w.heap.size w w1) := tbelow_tr hB0.out hb1
    clear hb1
    go_wp2
    go_ret
    exact ⟨rfl, hB1.out⟩
end Go.Proofs.Ytgjomkgbpfklkaa
