/- The program's TxnRight. -/
import Derived.Test.YtgjomkgbpfklkaaTxnImpl
namespace Go.Proofs.Ytgjomkgbpfklkaa
open Go.RowKit
variable {p e s u : Int} {ra la : Option Addr} {rl rc ll lc : Nat}

def leftB (s : Int) (rs ls : List Int) : Bool := if s = 1 then decide (ls.length = 0) else endsB s && (ls.all (touchB rs) && upB ls)
theorem tcell {w : World} {g : Nat} {C : Array Value} {t : TypeId} (h : w.heap[g]? = some (.cells C t (0, 0))) (o : Nat) : w.cell? ⟨g, o, none⟩ = C[o]? := by
  simp [World.cell?, h]
theorem tunfrozen {w : World} {g : Nat} {C : Array Value} {t : TypeId} (h : w.heap[g]? = some (.cells C t (0, 0))) (o : Nat) : w.frozen? ⟨g, o, none⟩ = false := by
  simp [World.frozen?, h]
theorem tblk_lt {u : World} {i : Nat} {o : Obj} (h : u.heap[i]? = some o) : i < u.heap.size := (Array.getElem?_eq_some_iff.1 h).1
theorem tblk {u v : World} {i : Nat} {o : Obj} (h : u.heap[i]? = some o) (hb : Below u.heap.size u v) : v.heap[i]? = some o := (hb.block i (tblk_lt h)).trans h
set_option maxRecDepth 100000 in
set_option maxHeartbeats 2000000 in
theorem impl_leftRight (rs ls : List Int) (w : World) (hi : TIn w ra rl la ll rs ls) :
    Calls Try.prog 40 #[txnV p e s u ra rl rc la ll lc] w fun x w' => x = .returned (.bool (leftB s rs ls)) ∧ Below w.heap.size w w' := by
  have HI : Hid (TIn w ra rl la ll rs ls) := hi
  have hrl : rl ≤ 1048576 := hi.rle
  have hll : ll ≤ 1048576 := hi.lle
  have HL : Hid (ls.length = ll) := hi.ls.1
  clear hi
  by_cases hs : s = 1
  · subst hs
    have hE : Hid (leftB 1 rs ls = ((ll : Int) == 0)) := show _ = _ by
      rw [Bool.eq_iff_iff]
      simp [leftB, HL.out]
    go_enter Try.func40, Try.ntmps40
    go_wp2
    go_ret
    exact ⟨ret_bool hE.out.symm, tbelow_new _ _⟩
  · have hs' : (s == 1) = false := by simpa using hs
    have HG : Hid (leftB s rs ls = (endsB s && (ls.all (touchB rs) && upB ls))) := if_neg hs
    have HE : Hid _ := fun w => timpl_ends s w
    have HB0 : Hid (Below w.heap.size w (w.alloc (txnObj p e s u ra rl rc la ll lc))) := tbelow_new _ _
    have HK0 : Hid ((w.alloc (txnObj p e s u ra rl rc la ll lc)).heap[w.heap.size]? = some (txnObj p e s u ra rl rc la ll lc)) := heap_alloc_new _ _
    have HT : Hid _ := fun w => impl_touchedBy (p := p) (e := e) (s := s) (u := u) (ra := ra) (la := la) (rl := rl) (rc := rc) (ll := ll) (lc := lc) w
    have HR : Hid _ := fun w B h hb hrs => impl_risingT (p := p) (e := e) (s := s) (u := u) (ra := ra) (la := la) (rl := rl) (rc := rc) (ll := ll) (lc := lc) B rs la ll lc ls w h hll hb hrs hrl
    obtain ⟨T, hT⟩ : ∃ T, endsB s = T := ⟨_, rfl⟩
    obtain ⟨A, hA⟩ : ∃ A, (ls.all (touchB rs) && upB ls) = A := ⟨_, rfl⟩
    rw [hT] at HG HE
    rw [hA] at HG HR
    clear hT hA hs
    cases T
    · have hE : Hid (leftB s rs ls = false) := HG.out.trans (by simp)
      clear HG HR
      go_enter Try.func40, Try.ntmps40
      go_upto_region 3 with fail
      go_cut [2] (fun t wc => t = .bool false ∧ Hid (Below w.heap.size w wc))
      case first =>
        first | (go_region_with (go_at_call 26; refine (HE.out _).mono ?_; rintro x w1 ⟨rfl, hw1⟩; rw [hw1]; clear hw1 w1)) | fail
        all_goals (go_wp2_with fail; go_meet; exact ⟨rfl, HB0.out.drew⟩)
      case rest =>
      obtain ⟨rfl, hS⟩ := hcut
      go_wp2
      go_ret
      exact ⟨ret_bool hE.out.symm, hS.out⟩
    · have hE : Hid (leftB s rs ls = A) := HG.out.trans (by simp)
      clear HG
      go_enter Try.func40, Try.ntmps40
      have HI0 : Hid (TIn (w.alloc (txnObj p e s u ra rl rc la ll lc)).drew ra rl la ll rs ls) := HI.out.below HB0.out.drew
      have HB1 : Hid (Below w.heap.size w ((w.alloc (txnObj p e s u ra rl rc la ll lc)).drew.alloc (txnObj p e s u ra rl rc la ll lc))) := tbelow_tr HB0.out.drew (tbelow_new _ _)
      have HI1 : Hid (TIn ((w.alloc (txnObj p e s u ra rl rc la ll lc)).drew.alloc (txnObj p e s u ra rl rc la ll lc)) ra rl la ll rs ls) := HI.out.below HB1.out
      have HK1 : Hid (((w.alloc (txnObj p e s u ra rl rc la ll lc)).drew.alloc (txnObj p e s u ra rl rc la ll lc)).heap[w.heap.size + 1]? = some (txnObj p e s u ra rl rc la ll lc)) := by
        have h := heap_alloc_new (w.alloc (txnObj p e s u ra rl rc la ll lc)).drew (txnObj p e s u ra rl rc la ll lc)
        have hz : (w.alloc (txnObj p e s u ra rl rc la ll lc)).drew.heap.size = w.heap.size + 1 := World.size_alloc _ _
        rwa [hz] at h
      go_upto_region 3 with fail
      go_cut [2] (fun t wc => t = .bool A ∧ Hid (Below w.heap.size w wc))
      case first =>
        first | (go_region_with (first
          | (go_at_call 26; refine (HE.out _).mono ?_; rintro x w1 ⟨rfl, hw1⟩; rw [hw1]; clear hw1 w1)
          | (go_at_call 29; refine (HT.out _).mono ?_; rintro x w1 ⟨rfl, hw1⟩; rw [hw1]; clear hw1 w1)
          | (go_at_call 39; refine (HR.out _ (w.heap.size + 1) HI1.out.ls HK1.out HI1.out.rs).mono ?_; rintro x w2 ⟨rfl, hb2⟩; have HB2 : Hid (Below w.heap.size w w2) := tbelow_tr HB1.out hb2; clear hb2))) | fail
        all_goals (go_wp2_with fail; go_meet; exact ⟨rfl, HB2.out⟩)
      case rest =>
      obtain ⟨rfl, hS⟩ := hcut
      go_wp2
      go_ret
      exact ⟨ret_bool hE.out.symm, hS.out⟩
theorem left_same {s : Int} {rs ls : List Int} (h3 : ringsB rs = true) : leftB s rs ls = (decide (1 ≤ s ∧ s ≤ 3) && ringsB ls && ls.all (hasB rs) && (decide (s ≠ 1) || decide (ls.length = 0))) := by
  have hup : upB rs = true := by simp [ringsB] at h3; exact h3.2
  have hrn : ∀ x ∈ rs, rnum x = true := by simp [ringsB] at h3; exact h3.1
  have ht : ls.all (touchB rs) = ls.all (hasB rs) := by
    congr 1
    funext x
    exact find_has hup x
  unfold leftB
  by_cases hs : s = 1
  · subst hs
    rw [if_pos rfl]
    cases ls with
    | nil => simp [ringsB, upB]
    | cons x r => simp
  · rw [if_neg hs, ht]
    have he : endsB s = decide (1 ≤ s ∧ s ≤ 3) := by
      unfold endsB
      rw [Bool.eq_iff_iff]
      simp
      omega
    rw [he, decide_eq_true hs]
    by_cases hh : ls.all (hasB rs) = true
    · have hl : ls.all rnum = true := by
        rw [List.all_eq_true] at hh ⊢
        intro x hx
        have := hh x hx
        unfold hasB at this
        rw [List.any_eq_true] at this
        obtain ⟨y, hy, e⟩ := this
        rw [← (beq_iff_eq.1 e)]
        exact hrn y hy
      simp [ringsB, hl, hh]
    · have hh' : ls.all (hasB rs) = false := by simpa using hh
      simp [hh']
set_option maxRecDepth 100000 in
set_option maxHeartbeats 2000000 in
theorem impl_txnRight (rs ls : List Int) (w : World) (hi : TIn w ra rl la ll rs ls) :
    Calls Try.prog 14 #[txnV p e s u ra rl rc la ll lc] w fun x w' => x = .returned (.bool (txnRightB p e s u rs ls)) ∧ Below w.heap.size w w' := by
  have HI : Hid (TIn w ra rl la ll rs ls) := hi
  have hrl : rl ≤ 1048576 := hi.rle
  have HLR : Hid _ := fun w (h : TIn w ra rl la ll rs ls) => impl_leftRight (p := p) (e := e) (s := s) (u := u) (rc := rc) (lc := lc) rs ls w h
  clear hi
  have HB0 : Hid (Below w.heap.size w (w.alloc (txnObj p e s u ra rl rc la ll lc))) := tbelow_new _ _
  have H1 : Hid _ := fun w => timpl_prod p w
  have H4 : Hid _ := fun w => timpl_time u w
  by_cases h1 : 1 ≤ p ∧ p ≤ 4
  · rw [decide_eq_true h1] at H1
    by_cases h2 : 1 ≤ e
    · by_cases h2' : e ≤ 1000000
      · by_cases h4 : 0 ≤ u ∧ u ≤ 1000000
        · rw [decide_eq_true h4] at H4
          have HG : Hid (txnRightB p e s u rs ls = (ringsB rs && leftB s rs ls)) := show _ = _ by
            by_cases h3 : ringsB rs = true
            · rw [left_same h3, h3]
              simp only [txnRightB, h1, h2, h2', h4, h3, and_self, decide_true, Bool.true_and, Bool.and_true]
            · have h3' : ringsB rs = false := by simpa using h3
              simp [txnRightB, h3']
          have HR : Hid _ := fun w h => impl_risingR ra rl rc rs w h hrl
          rw [show (rs.all rnum && upB rs) = ringsB rs from rfl] at HR
          obtain ⟨R, hR⟩ : ∃ R, ringsB rs = R := ⟨_, rfl⟩
          obtain ⟨L, hL⟩ : ∃ L, leftB s rs ls = L := ⟨_, rfl⟩
          rw [hR] at HR HG
          rw [hL] at HLR HG
          clear hR hL h1 h4
          go_enter Try.func14, Try.ntmps14
          go_wp2_with fail
          refine (H1.out _).mono ?_
          rintro x w1 ⟨rfl, hw1⟩
          rw [hw1]
          clear hw1 w1
          go_wp2_with fail
          refine (H4.out _).mono ?_
          rintro x w1 ⟨rfl, hw1⟩
          rw [hw1]
          clear hw1 w1
          go_wp2_with fail
          refine (HR.out _ (nums_below HI.out.rs HB0.out)).mono ?_
          rintro x w1 ⟨rfl, hb1⟩
          have HB1 : Hid (Below w.heap.size w w1) := tbelow_tr HB0.out hb1
          have hK1 := tblk (heap_alloc_new w (txnObj p e s u ra rl rc la ll lc)) hb1
          have hc1 := fun o => tcell hK1 o
          clear hb1 hK1
          cases R
          · have hE : Hid (txnRightB p e s u rs ls = false) := HG.out.trans (by simp)
            clear HG
            go_wp2
            go_ret
            exact ⟨ret_bool hE.out.symm, HB1.out⟩
          · have hE : Hid (txnRightB p e s u rs ls = L) := HG.out.trans (by simp)
            clear HG
            go_wp2_with fail
            refine (HLR.out _ (HI.out.below HB1.out)).mono ?_
            rintro x w2 ⟨rfl, hb2⟩
            have HB2 : Hid (Below w.heap.size w w2) := tbelow_tr HB1.out hb2
            clear hb2
            go_wp2
            go_ret
            exact ⟨ret_bool hE.out.symm, HB2.out⟩
        · rw [decide_eq_false h4] at H4
          have hE : Hid (txnRightB p e s u rs ls = false) := show _ = _ by simp [txnRightB, h4]
          clear h1 h4
          go_enter Try.func14, Try.ntmps14
          go_wp2_with fail
          refine (H1.out _).mono ?_
          rintro x w1 ⟨rfl, hw1⟩
          rw [hw1]
          clear hw1 w1
          go_wp2_with fail
          refine (H4.out _).mono ?_
          rintro x w1 ⟨rfl, hw1⟩
          rw [hw1]
          clear hw1 w1
          go_wp2
          go_ret
          exact ⟨ret_bool hE.out.symm, HB0.out⟩
      · have hE : Hid (txnRightB p e s u rs ls = false) := show _ = _ by simp [txnRightB, h2']
        clear h1
        go_enter Try.func14, Try.ntmps14
        go_wp2_with fail
        refine (H1.out _).mono ?_
        rintro x w1 ⟨rfl, hw1⟩
        rw [hw1]
        clear hw1 w1
        go_wp2
        go_ret
        exact ⟨ret_bool hE.out.symm, HB0.out⟩
    · have hE : Hid (txnRightB p e s u rs ls = false) := show _ = _ by simp [txnRightB, h2]
      clear h1
      go_enter Try.func14, Try.ntmps14
      go_wp2_with fail
      refine (H1.out _).mono ?_
      rintro x w1 ⟨rfl, hw1⟩
      rw [hw1]
      clear hw1 w1
      go_wp2
      go_ret
      exact ⟨ret_bool hE.out.symm, HB0.out⟩
  · rw [decide_eq_false h1] at H1
    have hE : Hid (txnRightB p e s u rs ls = false) := show _ = _ by simp [txnRightB, h1]
    clear h1
    go_enter Try.func14, Try.ntmps14
    go_wp2_with fail
    refine (H1.out _).mono ?_
    rintro x w1 ⟨rfl, hw1⟩
    rw [hw1]
    clear hw1 w1
    go_wp2
    go_ret
    exact ⟨ret_bool hE.out.symm, HB0.out⟩
end Go.Proofs.Ytgjomkgbpfklkaa
