import Derived.Test.YtahccighonddaaaGreatDoorTxnImpl2
import Derived.Maps.AppendAt
import Derived.Maps.Range
import Derived.Maps.RangeWalk
import Derived.Deep.Onto
import Derived.Lib.SmallJoins
import Derived.ChangeSlices
import Derived.ProofKit
import Derived.OpenShut
namespace Go.Proofs.YtahccighonddaaaGreatDoor
open Go.RowKit
variable {p e s u : Int} {ra la : Option Addr} {rl rc ll lc : Nat}
def OwnTxn (w : World) (base : Nat) (ra : Option Addr) (rl rc : Nat) (la : Option Addr) (ll lc : Nat) (xs ys : List Value) : Prop :=
  w.ownsRow base 2 1 (.slice ra rl rc) rl xs ∧ w.ownsRow base 2 1 (.slice la ll lc) ll ys ∧ ∀ g,(Value.slice ra rl rc).ownBlock = some g → (Value.slice la ll lc).ownBlock ≠ some g
theorem OwnTxn.below {w w' : World} {base : Nat} {xs ys : List Value} (h : OwnTxn w base ra rl rc la ll lc xs ys) (hb : Below w.heap.size w w') : OwnTxn w' base ra rl rc la ll lc xs ys :=
  ⟨h.1.kept (tbelow_grown hb) (by cases (Value.slice ra rl rc).ownBlock <;> simp),h.2.1.kept (tbelow_grown hb) (by cases (Value.slice la ll lc).ownBlock <;> simp),h.2.2⟩
theorem OwnTxn.mono {w : World} {base base' : Nat} {xs ys : List Value} (h : OwnTxn w base ra rl rc la ll lc xs ys) (hb : base' ≤ base) : OwnTxn w base' ra rl rc la ll lc xs ys :=
  ⟨h.1.mono hb,h.2.1.mono hb,h.2.2⟩
abbrev tset6 (w : World) (b : Nat) (v0 v1 v2 v3 v4 v5 : Value) : World := (((((w.setCell ⟨b,0,none⟩ v0).setCell ⟨b,1,none⟩ v1).setCell ⟨b,2,none⟩ v2).setCell ⟨b,3,none⟩ v3).setCell ⟨b,4,none⟩ v4).setCell ⟨b,5,none⟩ v5
theorem own_set6 {w : World} {base e size n : Nat} {v : Value} {xs : List Value} (h : w.ownsRow base e size v n xs) (b : Nat) (hb : b < base) (v0 v1 v2 v3 v4 v5 : Value) : (tset6 w b v0 v1 v2 v3 v4 v5).ownsRow base e size v n xs :=
  ownsRow_setCell_below (ownsRow_setCell_below (ownsRow_setCell_below (ownsRow_setCell_below (ownsRow_setCell_below (ownsRow_setCell_below h (a := ⟨b,0,none⟩) hb _) (a := ⟨b,1,none⟩) hb _) (a := ⟨b,2,none⟩) hb _) (a := ⟨b,3,none⟩) hb _) (a := ⟨b,4,none⟩) hb _) (a := ⟨b,5,none⟩) hb _
theorem below_set6 {B : Nat} {a w : World} (h : Below B a w) (b : Nat) (hb : B ≤ b) (v0 v1 v2 v3 v4 v5 : Value) : Below B a (tset6 w b v0 v1 v2 v3 v4 v5) :=
  (((((h.setCell (p := ⟨b,0,none⟩) hb _).setCell (p := ⟨b,1,none⟩) hb _).setCell (p := ⟨b,2,none⟩) hb _).setCell (p := ⟨b,3,none⟩) hb _).setCell (p := ⟨b,4,none⟩) hb _).setCell (p := ⟨b,5,none⟩) hb _
theorem OwnTxn.set6 {w : World} {base : Nat} {xs ys : List Value} (h : OwnTxn w base ra rl rc la ll lc xs ys) (b : Nat) (hb : b < base) (v0 v1 v2 v3 v4 v5 : Value) : OwnTxn (tset6 w b v0 v1 v2 v3 v4 v5) base ra rl rc la ll lc xs ys :=
  ⟨own_set6 h.1 b hb _ _ _ _ _ _,own_set6 h.2.1 b hb _ _ _ _ _ _,h.2.2⟩
def nszLeft (L n : Nat) : Int := if n ≤ L then ((L - n : Nat) : Int) else -1
theorem law_szNums (a : Option Addr) (n c : Nat) (L : Nat) (w : World) (hn : n ≤ maxLen) (hL : L ≤ 1048576) :
    Calls Tryz.prog 26 #[.slice a n c,.int .i64 L] w fun x w' => x = .returned (.int .i64 (nszLeft L n)) ∧ w' = w := by
  unfold maxLen at hn
  by_cases h0 : L < n
  · have hE : Hid (nszLeft L n = -1) := show _ = _ by rw [nszLeft,if_neg (by omega)]
    go_enter Tryz.func26,Tryz.ntmps26
    go_wp2
    go_ret
    exact ⟨ret_int hE.out.symm,rfl⟩
  · have hE : Hid (nszLeft L n = (L : Int) - (n : Int)) := show _ = _ by rw [nszLeft,if_pos (by omega)]; omega
    go_enter Tryz.func26,Tryz.ntmps26
    go_wp2
    go_ret
    exact ⟨ret_int hE.out.symm,rfl⟩
def txnLeft (L n m : Nat) : Int := if n + m ≤ L then ((L - (n + m) : Nat) : Int) else -1
set_option maxHeartbeats 1000000 in
theorem law_szTxn (L : Nat) (w : World) (hn : rl ≤ maxLen) (hm : ll ≤ maxLen) (hL : L ≤ 1048576) :
    Calls Tryz.prog 77 #[txnV p e s u ra rl rc la ll lc,.int .i64 L] w fun x w' => x = .returned (.int .i64 (txnLeft L rl ll)) ∧ Below w.heap.size w w' := by
  by_cases h0 : rl ≤ L
  · have HQ : Hid _ := fun w => law_szNums ra rl rc L w hn hL
    rw [show nszLeft L rl = ((L - rl : Nat) : Int) by rw [nszLeft,if_pos h0]] at HQ
    obtain ⟨x,hx⟩ : ∃ x,L - rl = x := ⟨_,rfl⟩
    rw [hx] at HQ
    have hxm : x ≤ 1048576 := by omega
    have hE : Hid (txnLeft L rl ll = nszLeft x ll) := show _ = _ by
      rw [txnLeft,nszLeft]
      by_cases h1 : ll ≤ x
      · rw [if_pos (by omega),if_pos (by omega)]; omega
      · rw [if_neg (by omega),if_neg (by omega)]
    clear hx h0
    go_enter Tryz.func77,Tryz.ntmps77
    go_wp2_with fail
    refine (HQ.out _).mono ?_
    rintro y w1 ⟨rfl,hw1⟩
    rw [hw1]
    clear hw1 w1
    go_wp2_with fail
    refine (law_szNums la ll lc x _ hm hxm).mono ?_
    rintro y w1 ⟨rfl,hw1⟩
    rw [hw1]
    clear hw1 w1
    by_cases h1 : ll ≤ x
    · rw [show nszLeft x ll = ((x - ll : Nat) : Int) by rw [nszLeft,if_pos (by omega)]] at hE ⊢
      go_wp2
      go_ret
      exact ⟨ret_int hE.out.symm,tbelow_new _ _⟩
    · rw [show nszLeft x ll = -1 by rw [nszLeft,if_neg (by omega)]] at hE ⊢
      go_wp2
      go_ret
      exact ⟨ret_int hE.out.symm,tbelow_new _ _⟩
  · have HQ : Hid _ := fun w => law_szNums ra rl rc L w hn hL
    rw [show nszLeft L rl = -1 by rw [nszLeft,if_neg h0]] at HQ
    have hE : Hid (txnLeft L rl ll = -1) := show _ = _ by rw [txnLeft,if_neg (by omega)]
    clear h0
    go_enter Tryz.func77,Tryz.ntmps77
    go_wp2_with fail
    refine (HQ.out _).mono ?_
    rintro y w1 ⟨rfl,hw1⟩
    rw [hw1]
    clear hw1 w1
    go_wp2
    go_ret
    exact ⟨ret_int hE.out.symm,tbelow_new _ _⟩
set_option maxHeartbeats 1000000 in
theorem law_eqNums (a b : Option Addr) (n ca cb : Nat) (l : List Int) (w : World) (ha : Nums w a n l) (hb : Nums w b n l) (hn : n ≤ 2097152) :
    Calls Tryz.prog 48 #[.slice a n ca,.slice b n cb] w fun x w' => x = .returned (.bool true) ∧ Below w.heap.size w w' := by
  have HA : Hid (Nums w a n l) := ha
  have HB : Hid (Nums w b n l) := hb
  clear ha hb
  go_enter Tryz.func48,Tryz.ntmps48
  go_wp2
  go_loopw [5] (fun i wr => ∃ k : Nat,k ≤ n ∧ i = .int .i64 k ∧ Hid (Below w.heap.size w wr)) (fun i _ => n - (intOf i).toNat)
  case atStart => exact ⟨0,by omega,rfl,Below.refl _ _⟩
  case round =>
    obtain ⟨k,hk,rfl,hw⟩ := hrel
    by_cases hlt : k < n
    · obtain ⟨b1,o1,V,rfl,e1,c1⟩ := nums_at HA.out hw.out hlt
      obtain ⟨b2,o2,V',rfl,e2,c2⟩ := nums_at HB.out hw.out hlt
      obtain rfl : V = V' := Option.some.inj (e1.symm.trans e2)
      clear e1 e2
      have hVV : (V != V) = false := by simp
      go_wp2
      go_region
      all_goals go_wp2
      all_goals first | exact ⟨⟨k + 1,by omega,by go_num,hw.out.drew⟩,by simp [intOf]; omega⟩ | (go_roundw; all_goals first | exact ⟨k + 1,by omega,by go_num,hw.out.drew⟩ | (simp [intOf]; omega))
    · go_wp2
      go_ret
      exact ⟨rfl,hw.out⟩
set_option maxHeartbeats 1000000 in
theorem law_eqTxn (ra' : Option Addr) (rc' : Nat) (la' : Option Addr) (lc' : Nat) (rs ls : List Int) (w : World)
    (h1 : Nums w ra rl rs) (h2 : Nums w ra' rl rs) (h3 : Nums w la ll ls) (h4 : Nums w la' ll ls) (hr : rl ≤ 2097152) (hc : ll ≤ 2097152) :
    Calls Tryz.prog 100 #[txnV p e s u ra rl rc la ll lc,txnV p e s u ra' rl rc' la' ll lc'] w fun x w' => x = .returned (.bool true) ∧ Below w.heap.size w w' := by
  have e1 : (p != p) = false := by simp
  have e2 : (e != e) = false := by simp
  have e3 : (s != s) = false := by simp
  have e4 : (u != u) = false := by simp
  have H1 : Hid _ := h1
  have H2 : Hid _ := h2
  have H3 : Hid _ := h3
  have H4 : Hid _ := h4
  clear h1 h2 h3 h4
  have hB0 : Hid (Below w.heap.size w ((w.alloc (txnObj p e s u ra rl rc la ll lc)).alloc (txnObj p e s u ra' rl rc' la' ll lc'))) := ((Below.refl _ _).alloc (Nat.le_refl _) _).alloc (by simp) _
  go_enter Tryz.func100,Tryz.ntmps100
  go_wp2_with fail
  refine (law_eqNums ra ra' rl rc rc' rs _ (nums_below H1.out hB0.out) (nums_below H2.out hB0.out) hr).mono ?_
  rintro x w1 ⟨rfl,hb1⟩
  have hc1 := fun o => hb1.cell (p := ⟨w.heap.size,o,none⟩) (by simp only [World.size_alloc]; omega)
  have hc2 := fun o => hb1.cell (p := ⟨w.heap.size + 1,o,none⟩) (by simp only [World.size_alloc]; omega)
  have hB1 : Hid (Below w.heap.size w w1) := tbelow_tr hB0.out hb1
  clear hb1
  go_wp2_with fail
  refine (law_eqNums la la' ll lc lc' ls _ (nums_below H3.out hB1.out) (nums_below H4.out hB1.out) hc).mono ?_
  rintro x w2 ⟨rfl,hb2⟩
  have hB2 : Hid (Below w.heap.size w w2) := tbelow_tr hB1.out hb2
  go_wp2
  go_ret
  exact ⟨rfl,hB2.out⟩
def tfillTo (ys zs : List Value) (k : Nat) : List Value := ys.take k ++ zs.drop k
theorem tfill_zero (ys zs : List Value) : tfillTo ys zs 0 = zs := by simp [tfillTo]
theorem tfill_all (ys zs : List Value) (h : zs.length ≤ ys.length) : tfillTo ys zs ys.length = ys := by
  rw [tfillTo,List.take_length,List.drop_eq_nil_of_le h,List.append_nil]
theorem tfill_set (ys zs : List Value) (k : Nat) (h : k < ys.length) (hz : k < zs.length) : (tfillTo ys zs k).set k ys[k] = tfillTo ys zs (k + 1) := by
  apply List.ext_getElem?
  intro j
  unfold tfillTo
  by_cases hj : k = j
  · subst hj
    rw [List.getElem?_set_self (by simp; omega)]
    rw [List.getElem?_append_left (by simp; omega),List.getElem?_take,if_pos (by omega),List.getElem?_eq_getElem h]
  · rw [List.getElem?_set_ne hj]
    by_cases hlt : j < k
    · rw [List.getElem?_append_left (by simp; omega),List.getElem?_append_left (by simp; omega),List.getElem?_take,List.getElem?_take,if_pos hlt,if_pos (by omega)]
    · rw [List.getElem?_append_right (by simp; omega),List.getElem?_append_right (by simp; omega),List.getElem?_drop,List.getElem?_drop]
      congr 1
      simp
      omega
theorem tfill_len (ys zs : List Value) (k : Nat) (h : ys.length = zs.length) : (tfillTo ys zs k).length = ys.length := by simp [tfillTo]; omega
set_option maxHeartbeats 1000000 in
theorem law_toNums (a : Option Addr) (n c : Nat) (l : List Int) (w : World) (ha : Nums w a n l) (hn : n ≤ 1048576) :
    Calls Tryz.prog 40 #[.slice a n c] w fun x w' => x = .returned (.slice (some ⟨w.heap.size,0,none⟩) n n) ∧ w'.ownsRow w.heap.size 2 1 (.slice (some ⟨w.heap.size,0,none⟩) n n) n (numCells l) ∧ Below w.heap.size w w' := by
  obtain ⟨i0,hi,hz0,hz1,hz2⟩ := info_parts info_i64
  have HA : Hid (Nums w a n l) := ha
  have HL : Hid (l.length = n) := ha.1
  clear ha
  go_enter Tryz.func40,Tryz.ntmps40
  go_wp2_with (at_make; refine wpList_make_full _ rfl _ _ 23 rfl w.heap.size 2 i0 _ 1 Tryz.underlying23 hi hz0 hz1 _ _ _ _ n rfl rfl rfl rfl (by rw [hz2]; omega) (by unfold maxLen; omega) (Nat.le_refl _) ?_; intro w1 ho1 hg1)
  obtain ⟨zs,hzs⟩ : ∃ zs,(madeCells (Value.cells (.int .i64 0)) (n * 1)).toList = zs := ⟨_,rfl⟩
  have ho : w1.ownsRow w.heap.size 2 1 (.slice (some ⟨w.heap.size,0,none⟩) n n) n zs := by rw [← hzs]; exact ho1
  have HO : Hid (w1.ownsRow w.heap.size 2 1 (.slice (some ⟨w.heap.size,0,none⟩) n n) n zs) := ho
  have HZ : Hid (zs.length = n) := by have h := ho.1; show _ = _; omega
  have HB : Hid (Below w.heap.size w w1) := (Below.refl _ _).grown hg1 (Nat.le_refl _) (fun k e => by cases e)
  clear ho1 hzs hg1 ho
  go_loopw [4] (fun i wr => ∃ k : Nat,k ≤ n ∧ i = .int .i64 k ∧ Hid (wr.ownsRow w.heap.size 2 1 (.slice (some ⟨w.heap.size,0,none⟩) n n) n (tfillTo (numCells l) zs k)) ∧ Hid (Below w.heap.size w wr)) (fun i _ => n - (intOf i).toNat)
  case atStart => exact ⟨0,by omega,rfl,by rw [tfill_zero]; exact HO.out,HB.out⟩
  case round =>
    obtain ⟨k,hk,rfl,ho,hw⟩ := hrel
    by_cases hlt : k < n
    · obtain ⟨b,off,V,rfl,e1,c1⟩ := nums_at HA.out hw.out hlt
      have hkl : k < l.length := by rw [HL.out]; exact hlt
      have hV : l[k] = V := by rw [List.getElem?_eq_getElem hkl] at e1; exact Option.some.inj e1
      have hcl := ho.out.cellAt k (by omega)
      obtain ⟨x,hx⟩ : ∃ x,(tfillTo (numCells l) zs k)[k]? = some x := ⟨_,List.getElem?_eq_getElem (by rw [tfill_len _ _ _ (by simp; rw [HL.out,HZ.out])]; simpa using hkl)⟩
      rw [hx] at hcl
      have hfr := ho.out.frozenAt k
      obtain ⟨hs1,hs2⟩ := ho.out.stored k (.int .i64 V)
      have hse := tfill_set (numCells l) zs k (by simpa using hkl) (by rw [HZ.out]; exact hlt)
      rw [show (numCells l)[k]'(by simpa using hkl) = .int .i64 V by simp [hV]] at hse
      rw [hse] at hs1
      have H1 : Hid _ := hs1
      have H2 : Hid (Below w.heap.size w (wr.setCell ⟨w.heap.size,k,none⟩ (.int .i64 V))) := hw.out.setCell (p := ⟨w.heap.size,k,none⟩) (Nat.le_refl _) _
      clear hs1 hs2 hse hV e1 hx
      go_wp2
      exact ⟨⟨k + 1,by omega,by go_num,H1.out,H2.out⟩,by simp [intOf]; omega⟩
    · obtain rfl : k = n := by omega
      have H1 : Hid (wr.ownsRow w.heap.size 2 1 (.slice (some ⟨w.heap.size,0,none⟩) k k) k (numCells l)) := by
        have h := ho.out
        rw [show tfillTo (numCells l) zs k = numCells l from by
          have h := tfill_all (numCells l) zs (by simp; rw [HL.out,HZ.out]; omega)
          rw [List.length_map,HL.out] at h
          exact h] at h
        exact h
      go_wp2
      go_ret
      exact ⟨rfl,H1.out,hw.out⟩
set_option maxHeartbeats 1000000 in
theorem law_toTxn (rs ls : List Int) (w : World) (hr : Nums w ra rl rs) (hc : Nums w la ll ls) (hrl : rl ≤ 1048576) (hcl : ll ≤ 1048576) :
    Calls Tryz.prog 85 #[txnV p e s u ra rl rc la ll lc] w fun x w' => ∃ a c,x = .returned (txnV p e s u (some ⟨a,0,none⟩) rl rl (some ⟨c,0,none⟩) ll ll) ∧ OwnTxn w' w.heap.size (some ⟨a,0,none⟩) rl rl (some ⟨c,0,none⟩) ll ll (numCells rs) (numCells ls) ∧ Below w.heap.size w w' := by
  have HR : Hid (Nums w ra rl rs) := hr
  have HC : Hid (Nums w la ll ls) := hc
  clear hr hc
  go_enter Tryz.func85,Tryz.ntmps85
  go_wp2_with fail
  obtain ⟨W0,hW0⟩ : ∃ W0,(((w.alloc (.cells #[.int .i64 p,.int .i64 e,.int .i64 s,.int .i64 u,.slice ra rl rc,.slice la ll lc] 109)).alloc (.cells #[.int .i64 0,.int .i64 0,.int .i64 0,.int .i64 0,.slice none 0 0,.slice none 0 0] 59)).alloc (.cells #[.int .i64 p,.int .i64 e,.int .i64 s,.int .i64 u,.slice none 0 0,.slice none 0 0] 59)) = W0 := ⟨_,rfl⟩
  have hB0 : Below w.heap.size w W0 := by rw [← hW0]; exact (((Below.refl _ _).alloc (Nat.le_refl _) _).alloc (by simp) _).alloc (by simp; omega) _
  have hz0 : W0.heap.size = w.heap.size + 3 := by rw [← hW0]; simp
  have b0 : W0.heap[w.heap.size]? = some (.cells #[.int .i64 p,.int .i64 e,.int .i64 s,.int .i64 u,.slice ra rl rc,.slice la ll lc] 109 (0,0)) := by
    rw [← hW0]; exact (Below.heap_alloc _ _ _ (by simp; omega)).trans ((Below.heap_alloc _ _ _ (by simp)).trans (heap_alloc_new _ _))
  have b1 : W0.heap[w.heap.size + 1]? = some (.cells #[.int .i64 0,.int .i64 0,.int .i64 0,.int .i64 0,.slice none 0 0,.slice none 0 0] 59 (0,0)) := by
    rw [← hW0]
    have h := heap_alloc_new (w.alloc (.cells #[.int .i64 p,.int .i64 e,.int .i64 s,.int .i64 u,.slice ra rl rc,.slice la ll lc] 109)) (.cells #[.int .i64 0,.int .i64 0,.int .i64 0,.int .i64 0,.slice none 0 0,.slice none 0 0] 59)
    rw [World.size_alloc] at h
    exact (Below.heap_alloc _ _ _ (by simp)).trans h
  have b2 : W0.heap[w.heap.size + 1 + 1]? = some (.cells #[.int .i64 p,.int .i64 e,.int .i64 s,.int .i64 u,.slice none 0 0,.slice none 0 0] 59 (0,0)) := by
    rw [← hW0]
    have h := heap_alloc_new ((w.alloc (.cells #[.int .i64 p,.int .i64 e,.int .i64 s,.int .i64 u,.slice ra rl rc,.slice la ll lc] 109)).alloc (.cells #[.int .i64 0,.int .i64 0,.int .i64 0,.int .i64 0,.slice none 0 0,.slice none 0 0] 59)) (.cells #[.int .i64 p,.int .i64 e,.int .i64 s,.int .i64 u,.slice none 0 0,.slice none 0 0] 59)
    rw [World.size_alloc,World.size_alloc] at h
    exact h
  rw [hW0]
  clear hW0
  have HB0 : Hid (Below w.heap.size w W0) := hB0
  refine (law_toNums ra rl rc rs _ (nums_below HR.out HB0.out) hrl).mono ?_
  rintro x w1 ⟨rfl,ho1,hb1⟩
  obtain ⟨a,ha⟩ : ∃ a,W0.heap.size = a := ⟨_,rfl⟩
  rw [ha] at ho1 hb1 hz0 ⊢
  have d0 := (hb1.block w.heap.size (by omega)).trans b0
  have d1 := (hb1.block (w.heap.size + 1) (by omega)).trans b1
  have d2 := (hb1.block (w.heap.size + 1 + 1) (by omega)).trans b2
  have hz1 := hb1.size
  rw [ha] at hz1
  have HB1 : Hid (Below w.heap.size w w1) := HB0.out.trans (hb1.mono (by omega))
  have HO1 : Hid (w1.ownsRow a 2 1 (.slice (some ⟨a,0,none⟩) rl rl) rl (numCells rs)) := ho1
  have hza : a < w1.heap.size := (ho1.lt a rfl).2
  have haz : w.heap.size + 1 + 1 < a := by omega
  clear hz0
  clear b0 b1 b2 hb1 ho1 hB0 ha
  have c05 : w1.cell? ⟨w.heap.size,5,none⟩ = some (.slice la ll lc) := tcell d0 5
  have c24 : w1.cell? ⟨w.heap.size + 1 + 1,4,none⟩ = some (.slice none 0 0) := tcell d2 4
  have f2 := tunfrozen d2 4
  have hW2 := heap_setCell_same w1 (w.heap.size + 1 + 1) 4 _ _ (.slice (some ⟨a,0,none⟩) rl rl) d2
  have d1' := (Below.heap_setCell w1 ⟨w.heap.size + 1 + 1,4,none⟩ (.slice (some ⟨a,0,none⟩) rl rl) (w.heap.size + 1) (by simp)).trans d1
  have HO1' := ownsRow_setCell_below HO1.out (a := ⟨w.heap.size + 1 + 1,4,none⟩) haz (.slice (some ⟨a,0,none⟩) rl rl)
  have HB1' := HB1.out.setCell (p := ⟨w.heap.size + 1 + 1,4,none⟩) (show w.heap.size ≤ w.heap.size + 1 + 1 by omega) (.slice (some ⟨a,0,none⟩) rl rl)
  go_wp2_with fail
  obtain ⟨W2,eW2⟩ : ∃ W2,w1.setCell ⟨w.heap.size + 1 + 1,4,none⟩ (.slice (some ⟨a,0,none⟩) rl rl) = W2 := ⟨_,rfl⟩
  have hz2 : W2.heap.size = w1.heap.size := by rw [← eW2]; simp [World.setCell]
  rw [eW2] at hW2 d1' HO1' HB1' ⊢
  have HB2 : Hid (Below w.heap.size w W2) := HB1'
  have HO2 : Hid (W2.ownsRow a 2 1 (.slice (some ⟨a,0,none⟩) rl rl) rl (numCells rs)) := HO1'
  have hz2' : a < W2.heap.size := by omega
  clear eW2 HO1' HB1' HO1 HB1 d0 d1 d2 c05 c24 f2 hz2 hz1 hza
  refine (law_toNums la ll lc ls _ (nums_below HC.out HB2.out) hcl).mono ?_
  rintro x w3 ⟨rfl,ho3,hb3⟩
  have e1 := (hb3.block (w.heap.size + 1) (by omega)).trans d1'
  have e2 := (hb3.block (w.heap.size + 1 + 1) (by omega)).trans hW2
  have HO3 : Hid (w3.ownsRow a 2 1 (.slice (some ⟨a,0,none⟩) rl rl) rl (numCells rs)) := HO2.out.kept (tbelow_grown hb3) (.inr (by simp [Value.ownBlock]))
  have HB3 : Hid (Below w.heap.size w w3) := tbelow_tr HB2.out hb3
  obtain ⟨c,hcc⟩ : ∃ c,W2.heap.size = c := ⟨_,rfl⟩
  rw [hcc] at ho3 hz2' ⊢
  have HC3 : Hid (w3.ownsRow c 2 1 (.slice (some ⟨c,0,none⟩) ll ll) ll (numCells ls)) := ho3
  clear hb3 ho3 hcc d1' hW2 HB2 HO2
  have e1c : ∀ o,w3.cell? ⟨w.heap.size + 1,o,none⟩ = _ := fun o => tcell e1 o
  have e1f := tunfrozen e1
  have e2c : ∀ o,w3.cell? ⟨w.heap.size + 1 + 1,o,none⟩ = _ := fun o => tcell e2 o
  have e2f := tunfrozen e2
  clear e1 e2
  go_wp2
  have k0 : w.heap.size + 1 < a := by omega
  have k1 : w.heap.size + 1 < c := by omega
  have k4 : w.heap.size + 1 + 1 < c := by omega
  have k2 : w.heap.size ≤ w.heap.size + 1 + 1 := by omega
  have k3 : w.heap.size ≤ w.heap.size + 1 := by omega
  refine bodyPost_ret (v := txnV p e s u (some ⟨a,0,none⟩) rl rl (some ⟨c,0,none⟩) ll ll) (by simp [results,Tryz.results85,go_sem,e1c]) rfl ⟨a,c,rfl,⟨?_,?_,?_⟩,?_⟩
  · exact (own_set6 (ownsRow_setCell_below HO3.out (a := ⟨w.heap.size + 1 + 1,5,none⟩) haz _) (w.heap.size + 1) k0 _ _ _ _ _ _).mono (by omega)
  · exact (own_set6 (ownsRow_setCell_below HC3.out (a := ⟨w.heap.size + 1 + 1,5,none⟩) k4 _) (w.heap.size + 1) k1 _ _ _ _ _ _).mono (by omega)
  · intro g hg e'
    simp [Value.ownBlock] at hg e'
    omega
  · exact below_set6 (HB3.out.setCell (p := ⟨w.heap.size + 1 + 1,5,none⟩) k2 _) (w.heap.size + 1) k3 _ _ _ _ _ _
end Go.Proofs.YtahccighonddaaaGreatDoor
namespace Go.Proofs.YtahccighonddaaaGreatDoor
open Go.ChangeShapes Go.WideShapes Go.ChangeAt Go.RowKit Go.Deep
structure LTIn (w : World) (ra : Option Addr) (rl : Nat) (la : Option Addr) (ll : Nat) (rs ls : List Int) : Prop where
  rs : Nums w ra rl rs
  ls : Nums w la ll ls
  rle : rl ≤ maxLen
  lle : ll ≤ maxLen
theorem LTIn.below {w w' : World} {ra la : Option Addr} {rl ll : Nat} {rs ls : List Int} (h : LTIn w ra rl la ll rs ls) (hb : Below w.heap.size w w') : LTIn w' ra rl la ll rs ls := ⟨nums_below h.rs hb,nums_below h.ls hb,h.rle,h.lle⟩
theorem cellsTxn : Tryz.prog.cellsOf 109 = 6 := by kernel_rfl
theorem cellsI64 : Tryz.prog.cellsOf 2 = 1 := by kernel_rfl
theorem nums_of_trod {H : Type} {enc : TypeId × Value → H} {w : World} {n : Nat} {x : Value} {y : DataW H × List MemPlace} (h : DataW.trod enc Tryz.prog w 0 (fun _ => true) true n 23 [x] = some y) :
    ∃ a len cap l,x = .slice a len cap ∧ Nums w a len l ∧ len ≤ maxLen := by
  rcases open_ints Tryz.underlying23 Tryz.underlying2 cellsI64 h with ⟨e,_⟩ | ⟨a,len,cap,zs,e,_,hl,hm,hz,_,hcell,_⟩
  · exact ⟨none,0,0,[],by simpa using e,⟨rfl,fun i hi => by simp at hi⟩,by unfold maxLen; omega⟩
  · simp at hz
    refine ⟨some a,len,cap,zs.take len,by simpa using e,⟨by simp; omega,fun i hi => ?_⟩,Nat.le_trans hl hm⟩
    have hi' : i < len := by simp at hi; omega
    obtain ⟨b,off,spot⟩ := a
    have hspot : spot = none := by simpa [Addr.add] using World.cell?_spot (hcell 0 (by omega))
    subst hspot
    refine ⟨b,off,rfl,?_⟩
    have hc := hcell i (by omega)
    rw [Addr.add_lit] at hc
    rw [hc]
    simp [show i < zs.length by omega]
end Go.Proofs.YtahccighonddaaaGreatDoor
namespace Go.Proofs.YtahccighonddaaaGreatDoor
open Go.RowKit
variable {p e s u : Int} {ra la : Option Addr} {rl rc ll lc : Nat}
def mNum (K : Nat) (xs : List Value) (i : Nat) : List Value := xs.mapIdx fun j x => if j < i then .int .i64 ((K + j : Nat) : Int) else x
theorem tmapIdx_same (xs : List Value) : xs.mapIdx (fun _ x => x) = xs := by
  apply List.ext_getElem?
  intro j
  simp
theorem mNum_zero (K : Nat) (xs : List Value) : mNum K xs 0 = xs := by simp [mNum,tmapIdx_same]
theorem mNum_set (K : Nat) (xs : List Value) (i : Nat) (h : i < xs.length) : (mNum K xs i).set i (.int .i64 ((K + i : Nat) : Int)) = mNum K xs (i + 1) := by
  apply List.ext_getElem?
  intro j
  by_cases hj : i = j
  · subst hj
    simp [mNum,h]
  · rw [List.getElem?_set_ne hj]
    simp only [mNum,List.getElem?_mapIdx]
    cases xs[j]? with
    | none => rfl
    | some x =>
      by_cases h1 : j < i
      · have : j < i + 1 := by omega
        simp [h1,this]
      · have : ¬ j < i + 1 := by omega
        simp [h1,this]
theorem mNum_length (K : Nat) (xs : List Value) (i : Nat) : (mNum K xs i).length = xs.length := by simp [mNum]
theorem mNum_at (K : Nat) (xs : List Value) (i : Nat) (h : i < xs.length) : (mNum K xs xs.length)[i]? = some (.int .i64 ((K + i : Nat) : Int)) := by simp [mNum,h]
set_option maxHeartbeats 1000000 in
theorem law_markNums (a : Option Addr) (n c base : Nat) (xs : List Value) (K : Nat) (w : World) (hown : w.ownsRow base 2 1 (.slice a n c) n xs) (hK : 0 < K) (hm : K + n ≤ 100000000) :
    Calls Tryz.prog 51 #[.slice a n c,.int .i64 K] w fun x w' => x = .returned (.int .i64 ((K + n : Nat) : Int)) ∧ w'.ownsRow base 2 1 (.slice a n c) n (mNum K xs n) ∧ w.grownBy w' (Value.slice a n c).ownBlock := by
  have hlen : xs.length = n := by simpa using hown.1
  have HO : Hid (w.ownsRow base 2 1 (.slice a n c) n xs) := hown
  clear hown
  go_enter Tryz.func51,Tryz.ntmps51
  go_wp2
  go_loopw [1,5] (fun q i wr => ∃ k : Nat,k ≤ n ∧ i = .int .i64 k ∧ q = .int .i64 ((K + k : Nat) : Int) ∧ Hid (wr.ownsRow base 2 1 (.slice a n c) n (mNum K xs k)) ∧ Hid (w.grownBy wr (Value.slice a n c).ownBlock)) (fun _ i _ => n - (intOf i).toNat)
  case atStart => exact ⟨0,by omega,rfl,by go_num,by rw [mNum_zero]; exact HO.out,World.grownBy.refl _ _⟩
  case round =>
    obtain ⟨k,hk,rfl,rfl,ho,hw⟩ := hrel
    by_cases hlt : k < n
    · obtain ⟨g,rfl⟩ := own_nform ho.out (by omega)
      have hcl := ho.out.cellAt k (by omega)
      obtain ⟨x,hx⟩ : ∃ x,(mNum K xs k)[k]? = some x := ⟨_,List.getElem?_eq_getElem (by rw [mNum_length]; omega)⟩
      rw [hx] at hcl
      have hfr := ho.out.frozenAt k
      clear hx
      obtain ⟨hs1,hs2⟩ := ho.out.stored k (.int .i64 ((K + k : Nat) : Int))
      rw [mNum_set K xs k (by omega)] at hs1
      have H3 : Hid _ := hs1
      have H4 : Hid _ := hw.out.trans hs2
      clear hs1 hs2
      go_wp2
      exact ⟨⟨k + 1,by omega,by go_num,by go_num,H3.out,H4.out⟩,by simp [intOf]; omega⟩
    · obtain rfl : k = n := by omega
      go_wp2
      go_ret
      exact ⟨ret_int (by omega),ho.out,hw.out⟩
set_option maxHeartbeats 1000000 in
theorem law_heldNums (a : Option Addr) (n c base : Nat) (xs : List Value) (K : Nat) (w : World) (hown : w.ownsRow base 2 1 (.slice a n c) n (mNum K xs n)) (hx : xs.length = n) (hK : 0 < K) (hm : K + n ≤ 100000000) :
    Calls Tryz.prog 103 #[.slice a n c,.int .i64 K] w fun x w' => x = .returned (.int .i64 ((K + n : Nat) : Int)) ∧ Below w.heap.size w w' := by
  have HO : Hid (w.ownsRow base 2 1 (.slice a n c) n (mNum K xs n)) := hown
  clear hown
  go_enter Tryz.func103,Tryz.ntmps103
  go_wp2
  go_loopw [1,5] (fun q i wr => ∃ k : Nat,k ≤ n ∧ i = .int .i64 k ∧ q = .int .i64 ((K + k : Nat) : Int) ∧ Hid (Below w.heap.size w wr)) (fun _ i _ => n - (intOf i).toNat)
  case atStart => exact ⟨0,by omega,rfl,by go_num,Below.refl _ _⟩
  case round =>
    obtain ⟨k,hk,rfl,rfl,hw⟩ := hrel
    by_cases hlt : k < n
    · obtain ⟨g,rfl⟩ := own_nform HO.out (by omega)
      have hcl := HO.out.cellAt k (by omega)
      have hlt2 := HO.out.lt g rfl
      have hxk : (mNum K xs n)[k]? = some (.int .i64 ((K : Int) + (k : Int))) := by rw [← hx,mNum_at K xs k (by omega)]; go_num
      rw [hxk,← hw.out.cell (p := ⟨g,k,none⟩) hlt2.2] at hcl
      have hne : ((K : Int) + (k : Int) != (K : Int) + (k : Int)) = false := by simp
      clear hxk
      go_wp2
      all_goals first | exact ⟨⟨k + 1,by omega,by go_num,by go_num,hw.out⟩,by simp [intOf]; omega⟩ | (go_roundw; all_goals first | exact ⟨k + 1,by omega,by go_num,by go_num,hw.out⟩ | (simp [intOf]; omega))
    · obtain rfl : k = n := by omega
      go_wp2
      go_ret
      exact ⟨ret_int (by omega),hw.out⟩
def TG (w w' : World) (r s : Option Nat) : Prop :=
  w'.os = w.os ∧ w'.tape = w.tape ∧ w'.output = w.output ∧ w.heap.size ≤ w'.heap.size ∧ ∀ k,k < w.heap.size → some k ≠ r → some k ≠ s → w'.heap[k]? = w.heap[k]?
theorem TG.trans {u v w : World} {r s : Option Nat} (h : TG u v r s) (k : TG v w r s) : TG u w r s :=
  ⟨k.1.trans h.1,k.2.1.trans h.2.1,k.2.2.1.trans h.2.2.1,Nat.le_trans h.2.2.2.1 k.2.2.2.1,fun i hi h1 h2 => (k.2.2.2.2 i (Nat.lt_of_lt_of_le hi h.2.2.2.1) h1 h2).trans (h.2.2.2.2 i hi h1 h2)⟩
theorem TG.right {w w' : World} {s : Option Nat} (h : w.grownBy w' s) (r : Option Nat) : TG w w' r s := ⟨h.os,h.tape,h.output,h.size,fun k hk _ h1 => h.block k hk h1⟩
theorem TG.ofBelow {w w' : World} (h : Below w.heap.size w w') (r s : Option Nat) : TG w w' r s := ⟨h.os,h.tape,h.output,h.size,fun k hk _ _ => h.block k hk⟩
theorem TG.below {w u v : World} {N : Nat} {r s : Option Nat} (h : Below N w u) (hN : N ≤ u.heap.size) (k : TG u v r s) (hr : ∀ i,r = some i → N ≤ i) (hs : ∀ i,s = some i → N ≤ i) : Below N w v :=
  ⟨k.1.trans h.os,k.2.1.trans h.tape,k.2.2.1.trans h.output,Nat.le_trans h.size k.2.2.2.1,fun i hi => (k.2.2.2.2 i (Nat.lt_of_lt_of_le hi hN) (fun e => by have := hr i e.symm; omega) (fun e => by have := hs i e.symm; omega)).trans (h.block i hi)⟩
theorem TG.kept {w w' : World} {r s : Option Nat} (k : TG w w' r s) {base e size n : Nat} {v : Value} {xs : List Value} (h : w.ownsRow base e size v n xs) (h1 : ∀ i,v.ownBlock = some i → some i ≠ r ∧ some i ≠ s) : w'.ownsRow base e size v n xs := by
  refine ⟨h.1,?_⟩
  rcases h.2 with hn | ⟨g,cap,cur,rfl,hb,hg,rest⟩
  · exact .inl hn
  · have hlt : g < w.heap.size := (Array.getElem?_eq_some_iff.1 hg).1
    have hne := h1 g rfl
    exact .inr ⟨g,cap,cur,rfl,hb,(k.2.2.2.2 g hlt hne.1 hne.2).trans hg,rest⟩
end Go.Proofs.YtahccighonddaaaGreatDoor
