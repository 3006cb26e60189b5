/- The laws' own helpers on transactions: sizes, copies in memory of their own, and that two of the same make are held equal. -/
import Derived.Test.YtopbfjdjlgecpaaTxnImpl2
import Derived.Maps.AppendAt
import Derived.Maps.Range
import Derived.Maps.RangeWalk
import Derived.Deep.Onto
namespace Go.Proofs.Ytopbfjdjlgecpaa
open Go.RowKit
variable {p e s u : Int} {ra la : Option Addr} {rl rc ll lc : Nat}

/-- A transaction's two lists lie in blocks of their own, from base on, each in one of its own. -/
def OwnTxn (w : World) (base : Nat) (ra : Option Addr) (rl rc : Nat) (la : Option Addr) (ll lc : Nat) (xs ys : List Value) : Prop :=
  w.ownsRow base 2 1 (.slice ra rl rc) rl xs ∧ w.ownsRow base 2 1 (.slice la ll lc) ll ys ∧ ∀ g, (Value.slice ra rl rc).ownBlock = some g → (Value.slice la ll lc).ownBlock ≠ some g
theorem OwnTxn.below {w w' : World} {base : Nat} {xs ys : List Value} (h : OwnTxn w base ra rl rc la ll lc xs ys) (hb : Below w.heap.size w w') : OwnTxn w' base ra rl rc la ll lc xs ys :=
  ⟨h.1.kept (tbelow_grown hb) (by cases (Value.slice ra rl rc).ownBlock <;> simp), h.2.1.kept (tbelow_grown hb) (by cases (Value.slice la ll lc).ownBlock <;> simp), h.2.2⟩
theorem OwnTxn.mono {w : World} {base base' : Nat} {xs ys : List Value} (h : OwnTxn w base ra rl rc la ll lc xs ys) (hb : base' ≤ base) : OwnTxn w base' ra rl rc la ll lc xs ys :=
  ⟨h.1.mono hb, h.2.1.mono hb, h.2.2⟩
abbrev tset6 (w : World) (b : Nat) (v0 v1 v2 v3 v4 v5 : Value) : World := (((((w.setCell ⟨b, 0, none⟩ v0).setCell ⟨b, 1, none⟩ v1).setCell ⟨b, 2, none⟩ v2).setCell ⟨b, 3, none⟩ v3).setCell ⟨b, 4, none⟩ v4).setCell ⟨b, 5, none⟩ v5
theorem own_set6 {w : World} {base e size n : Nat} {v : Value} {xs : List Value} (h : w.ownsRow base e size v n xs) (b : Nat) (hb : b < base) (v0 v1 v2 v3 v4 v5 : Value) : (tset6 w b v0 v1 v2 v3 v4 v5).ownsRow base e size v n xs :=
  ownsRow_setCell_below (ownsRow_setCell_below (ownsRow_setCell_below (ownsRow_setCell_below (ownsRow_setCell_below (ownsRow_setCell_below h (a := ⟨b, 0, none⟩) hb _) (a := ⟨b, 1, none⟩) hb _) (a := ⟨b, 2, none⟩) hb _) (a := ⟨b, 3, none⟩) hb _) (a := ⟨b, 4, none⟩) hb _) (a := ⟨b, 5, none⟩) hb _
theorem below_set6 {B : Nat} {a w : World} (h : Below B a w) (b : Nat) (hb : B ≤ b) (v0 v1 v2 v3 v4 v5 : Value) : Below B a (tset6 w b v0 v1 v2 v3 v4 v5) :=
  (((((h.setCell (p := ⟨b, 0, none⟩) hb _).setCell (p := ⟨b, 1, none⟩) hb _).setCell (p := ⟨b, 2, none⟩) hb _).setCell (p := ⟨b, 3, none⟩) hb _).setCell (p := ⟨b, 4, none⟩) hb _).setCell (p := ⟨b, 5, none⟩) hb _
theorem OwnTxn.set6 {w : World} {base : Nat} {xs ys : List Value} (h : OwnTxn w base ra rl rc la ll lc xs ys) (b : Nat) (hb : b < base) (v0 v1 v2 v3 v4 v5 : Value) : OwnTxn (tset6 w b v0 v1 v2 v3 v4 v5) base ra rl rc la ll lc xs ys :=
  ⟨own_set6 h.1 b hb _ _ _ _ _ _, own_set6 h.2.1 b hb _ _ _ _ _ _, h.2.2⟩
/-- What a list of numbers leaves of L. -/
def nszLeft (L n : Nat) : Int := if n ≤ L then ((L - n : Nat) : Int) else -1
/-- What a transaction leaves of L. -/
def txnLeft (L n m : Nat) : Int := if n + m ≤ L then ((L - (n + m) : Nat) : Int) else -1
set_option maxHeartbeats 1000000 in
theorem law_eqNums (a b : Option Addr) (n ca cb : Nat) (l : List Int) (w : World) (ha : Nums w a n l) (hb : Nums w b n l) (hn : n ≤ 2097152) :
    Calls Try.prog 22 #[.slice a n ca, .slice b n cb] w fun x w' => x = .returned (.bool true) ∧ Below w.heap.size w w' := by
  have HA : Hid (Nums w a n l) := ha
  have HB : Hid (Nums w b n l) := hb
  clear ha hb
  go_enter Try.func22, Try.ntmps22
  go_wp2
  go_loopw [5] (fun i wr => ∃ k : Nat, k ≤ n ∧ i = .int .i64 k ∧ Hid (Below w.heap.size w wr)) (fun i _ => n - (intOf i).toNat)
  case atStart => exact ⟨0, by omega, rfl, Below.refl _ _⟩
  case round =>
    obtain ⟨k, hk, rfl, hw⟩ := hrel
    by_cases hlt : k < n
    · obtain ⟨b1, o1, V, rfl, e1, c1⟩ := nums_at HA.out hw.out hlt
      obtain ⟨b2, o2, V', rfl, e2, c2⟩ := nums_at HB.out hw.out hlt
      obtain rfl : V = V' := Option.some.inj (e1.symm.trans e2)
      clear e1 e2
      have hVV : (V != V) = false := by simp
      go_wp2
      go_region
      all_goals go_wp2
      all_goals first | exact ⟨⟨k + 1, by omega, by go_num, hw.out.drew⟩, by simp [intOf]; omega⟩ | (go_roundw; all_goals first | exact ⟨k + 1, by omega, by go_num, hw.out.drew⟩ | (simp [intOf]; omega))
    · go_wp2
      go_ret
      exact ⟨rfl, hw.out⟩
set_option maxHeartbeats 1000000 in
theorem law_eqTxn (ra' : Option Addr) (rc' : Nat) (la' : Option Addr) (lc' : Nat) (rs ls : List Int) (w : World)
    (h1 : Nums w ra rl rs) (h2 : Nums w ra' rl rs) (h3 : Nums w la ll ls) (h4 : Nums w la' ll ls) (hr : rl ≤ 2097152) (hc : ll ≤ 2097152) :
    Calls Try.prog 31 #[txnV p e s u ra rl rc la ll lc, txnV p e s u ra' rl rc' la' ll lc'] w fun x w' => x = .returned (.bool true) ∧ Below w.heap.size w w' := by
  have e1 : (p != p) = false := by simp
  have e2 : (e != e) = false := by simp
  have e3 : (s != s) = false := by simp
  have e4 : (u != u) = false := by simp
  have H1 : Hid _ := h1
  have H2 : Hid _ := h2
  have H3 : Hid _ := h3
  have H4 : Hid _ := h4
  clear h1 h2 h3 h4
  have hB0 : Hid (Below w.heap.size w ((w.alloc (txnObj p e s u ra rl rc la ll lc)).alloc (txnObj p e s u ra' rl rc' la' ll lc'))) := ((Below.refl _ _).alloc (Nat.le_refl _) _).alloc (by simp) _
  go_enter Try.func31, Try.ntmps31
  go_wp2_with fail
  refine (law_eqNums ra ra' rl rc rc' rs _ (nums_below H1.out hB0.out) (nums_below H2.out hB0.out) hr).mono ?_
  rintro x w1 ⟨rfl, hb1⟩
  have hc1 := fun o => hb1.cell (p := ⟨w.heap.size, o, none⟩) (by simp only [World.size_alloc]; omega)
  have hc2 := fun o => hb1.cell (p := ⟨w.heap.size + 1, o, none⟩) (by simp only [World.size_alloc]; omega)
  have hB1 : Hid (Below w.heap.size w w1) := tbelow_tr hB0.out hb1
  clear hb1
  go_wp2_with fail
  refine (law_eqNums la la' ll lc lc' ls _ (nums_below H3.out hB1.out) (nums_below H4.out hB1.out) hc).mono ?_
  rintro x w2 ⟨rfl, hb2⟩
  have hB2 : Hid (Below w.heap.size w w2) := tbelow_tr hB1.out hb2
  go_wp2
  go_ret
  exact ⟨rfl, hB2.out⟩
/-- The first k cells of ys, the others z. -/
def tfillTo (ys zs : List Value) (k : Nat) : List Value := ys.take k ++ zs.drop k
theorem tfill_zero (ys zs : List Value) : tfillTo ys zs 0 = zs := by simp [tfillTo]
theorem tfill_all (ys zs : List Value) (h : zs.length ≤ ys.length) : tfillTo ys zs ys.length = ys := by
  rw [tfillTo, List.take_length, List.drop_eq_nil_of_le h, List.append_nil]
theorem tfill_set (ys zs : List Value) (k : Nat) (h : k < ys.length) (hz : k < zs.length) : (tfillTo ys zs k).set k ys[k] = tfillTo ys zs (k + 1) := by
  apply List.ext_getElem?
  intro j
  unfold tfillTo
  by_cases hj : k = j
  · subst hj
    rw [List.getElem?_set_self (by simp; omega)]
    rw [List.getElem?_append_left (by simp; omega), List.getElem?_take, if_pos (by omega), List.getElem?_eq_getElem h]
  · rw [List.getElem?_set_ne hj]
    by_cases hlt : j < k
    · rw [List.getElem?_append_left (by simp; omega), List.getElem?_append_left (by simp; omega), List.getElem?_take, List.getElem?_take, if_pos hlt, if_pos (by omega)]
    · rw [List.getElem?_append_right (by simp; omega), List.getElem?_append_right (by simp; omega), List.getElem?_drop, List.getElem?_drop]
      congr 1
      simp
      omega
theorem tfill_len (ys zs : List Value) (k : Nat) (h : ys.length = zs.length) : (tfillTo ys zs k).length = ys.length := by simp [tfillTo]; omega
end Go.Proofs.Ytopbfjdjlgecpaa
