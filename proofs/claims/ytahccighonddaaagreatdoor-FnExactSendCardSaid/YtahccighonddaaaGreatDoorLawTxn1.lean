import Derived.Test.YtahccighonddaaaGreatDoorLawTxn0
import Derived.Lib.SmallJoins
import Derived.ChangeSlices
import Derived.ProofKit
import Derived.OpenShut
namespace Go.Proofs.YtahccighonddaaaGreatDoor
open Go.ChangeShapes Go.WideShapes Go.ChangeAt Go.RowKit Go.Deep
structure LTIn (w : World) (ra : Option Addr) (rl : Nat) (la : Option Addr) (ll : Nat) (rs ls : List Int) : Prop where
  rs : Nums w ra rl rs
  ls : Nums w la ll ls
  rle : rl ≤ maxLen
  lle : ll ≤ maxLen
theorem LTIn.below {w w' : World} {ra la : Option Addr} {rl ll : Nat} {rs ls : List Int} (h : LTIn w ra rl la ll rs ls) (hb : Below w.heap.size w w') : LTIn w' ra rl la ll rs ls := ⟨nums_below h.rs hb, nums_below h.ls hb, h.rle, h.lle⟩
theorem cellsTxn : Tryz.prog.cellsOf 109 = 6 := by kernel_rfl
theorem cellsI64 : Tryz.prog.cellsOf 2 = 1 := by kernel_rfl
theorem nums_of_trod {H : Type} {enc : TypeId × Value → H} {w : World} {n : Nat} {x : Value} {y : DataW H × List MemPlace} (h : DataW.trod enc Tryz.prog w 0 (fun _ => true) true n 23 [x] = some y) :
    ∃ a len cap l, x = .slice a len cap ∧ Nums w a len l ∧ len ≤ maxLen := by
  rcases open_ints Tryz.underlying23 Tryz.underlying2 cellsI64 h with ⟨e, _⟩ | ⟨a, len, cap, zs, e, _, hl, hm, hz, _, hcell, _⟩
  · exact ⟨none, 0, 0, [], by simpa using e, ⟨rfl, fun i hi => by simp at hi⟩, by unfold maxLen; omega⟩
  · simp at hz
    refine ⟨some a, len, cap, zs.take len, by simpa using e, ⟨by simp; omega, fun i hi => ?_⟩, Nat.le_trans hl hm⟩
    have hi' : i < len := by simp at hi; omega
    obtain ⟨b, off, spot⟩ := a
    have hspot : spot = none := by simpa [Addr.add] using World.cell?_spot (hcell 0 (by omega))
    subst hspot
    refine ⟨b, off, rfl, ?_⟩
    have hc := hcell i (by omega)
    rw [Addr.add_lit] at hc
    rw [hc]
    simp [show i < zs.length by omega]
end Go.Proofs.YtahccighonddaaaGreatDoor
namespace Go.Proofs.YtahccighonddaaaGreatDoor
open Go.RowKit
variable {p e s u : Int} {ra la : Option Addr} {rl rc ll lc : Nat}
def mNum (K : Nat) (xs : List Value) (i : Nat) : List Value := xs.mapIdx fun j x => if j < i then .int .i64 ((K + j : Nat) : Int) else x
theorem tmapIdx_same (xs : List Value) : xs.mapIdx (fun _ x => x) = xs := by
  apply List.ext_getElem?
  intro j
  simp
theorem mNum_zero (K : Nat) (xs : List Value) : mNum K xs 0 = xs := by simp [mNum, tmapIdx_same]
theorem mNum_set (K : Nat) (xs : List Value) (i : Nat) (h : i < xs.length) : (mNum K xs i).set i (.int .i64 ((K + i : Nat) : Int)) = mNum K xs (i + 1) := by
  apply List.ext_getElem?
  intro j
  by_cases hj : i = j
  · subst hj
    simp [mNum, h]
  · rw [List.getElem?_set_ne hj]
    simp only [mNum, List.getElem?_mapIdx]
    cases xs[j]? with
    | none => rfl
    | some x =>
      by_cases h1 : j < i
      · have : j < i + 1 := by omega
        simp [h1, this]
      · have : ¬ j < i + 1 := by omega
        simp [h1, this]
theorem mNum_length (K : Nat) (xs : List Value) (i : Nat) : (mNum K xs i).length = xs.length := by simp [mNum]
theorem mNum_at (K : Nat) (xs : List Value) (i : Nat) (h : i < xs.length) : (mNum K xs xs.length)[i]? = some (.int .i64 ((K + i : Nat) : Int)) := by simp [mNum, h]
set_option maxHeartbeats 1000000 in
theorem law_markNums (a : Option Addr) (n c base : Nat) (xs : List Value) (K : Nat) (w : World) (hown : w.ownsRow base 2 1 (.slice a n c) n xs) (hK : 0 < K) (hm : K + n ≤ 100000000) :
    Calls Tryz.prog 51 #[.slice a n c, .int .i64 K] w fun x w' => x = .returned (.int .i64 ((K + n : Nat) : Int)) ∧ w'.ownsRow base 2 1 (.slice a n c) n (mNum K xs n) ∧ w.grownBy w' (Value.slice a n c).ownBlock := by
  have hlen : xs.length = n := by simpa using hown.1
  have HO : Hid (w.ownsRow base 2 1 (.slice a n c) n xs) := hown
  clear hown
  go_enter Tryz.func51, Tryz.ntmps51
  go_wp2
  go_loopw [1, 5] (fun q i wr => ∃ k : Nat, k ≤ n ∧ i = .int .i64 k ∧ q = .int .i64 ((K + k : Nat) : Int) ∧ Hid (wr.ownsRow base 2 1 (.slice a n c) n (mNum K xs k)) ∧ Hid (w.grownBy wr (Value.slice a n c).ownBlock)) (fun _ i _ => n - (intOf i).toNat)
  case atStart => exact ⟨0, by omega, rfl, by go_num, by rw [mNum_zero]; exact HO.out, World.grownBy.refl _ _⟩
  case round =>
    obtain ⟨k, hk, rfl, rfl, ho, hw⟩ := hrel
    by_cases hlt : k < n
    · obtain ⟨g, rfl⟩ := own_nform ho.out (by omega)
      have hcl := ho.out.cellAt k (by omega)
      obtain ⟨x, hx⟩ : ∃ x, (mNum K xs k)[k]? = some x := ⟨_, List.getElem?_eq_getElem (by rw [mNum_length]; omega)⟩
      rw [hx] at hcl
      have hfr := ho.out.frozenAt k
      clear hx
      obtain ⟨hs1, hs2⟩ := ho.out.stored k (.int .i64 ((K + k : Nat) : Int))
      rw [mNum_set K xs k (by omega)] at hs1
      have H3 : Hid _ := hs1
      have H4 : Hid _ := hw.out.trans hs2
      clear hs1 hs2
      go_wp2
      exact ⟨⟨k + 1, by omega, by go_num, by go_num, H3.out, H4.out⟩, by simp [intOf]; omega⟩
    · obtain rfl : k = n := by omega
      go_wp2
      go_ret
      exact ⟨ret_int (by omega), ho.out, hw.out⟩
set_option maxHeartbeats 1000000 in
theorem law_heldNums (a : Option Addr) (n c base : Nat) (xs : List Value) (K : Nat) (w : World) (hown : w.ownsRow base 2 1 (.slice a n c) n (mNum K xs n)) (hx : xs.length = n) (hK : 0 < K) (hm : K + n ≤ 100000000) :
    Calls Tryz.prog 103 #[.slice a n c, .int .i64 K] w fun x w' => x = .returned (.int .i64 ((K + n : Nat) : Int)) ∧ Below w.heap.size w w' := by
  have HO : Hid (w.ownsRow base 2 1 (.slice a n c) n (mNum K xs n)) := hown
  clear hown
  go_enter Tryz.func103, Tryz.ntmps103
  go_wp2
  go_loopw [1, 5] (fun q i wr => ∃ k : Nat, k ≤ n ∧ i = .int .i64 k ∧ q = .int .i64 ((K + k : Nat) : Int) ∧ Hid (Below w.heap.size w wr)) (fun _ i _ => n - (intOf i).toNat)
  case atStart => exact ⟨0, by omega, rfl, by go_num, Below.refl _ _⟩
  case round =>
    obtain ⟨k, hk, rfl, rfl, hw⟩ := hrel
    by_cases hlt : k < n
    · obtain ⟨g, rfl⟩ := own_nform HO.out (by omega)
      have hcl := HO.out.cellAt k (by omega)
      have hlt2 := HO.out.lt g rfl
      have hxk : (mNum K xs n)[k]? = some (.int .i64 ((K : Int) + (k : Int))) := by rw [← hx, mNum_at K xs k (by omega)]; go_num
      rw [hxk, ← hw.out.cell (p := ⟨g, k, none⟩) hlt2.2] at hcl
      have hne : ((K : Int) + (k : Int) != (K : Int) + (k : Int)) = false := by simp
      clear hxk
      go_wp2
      all_goals first | exact ⟨⟨k + 1, by omega, by go_num, by go_num, hw.out⟩, by simp [intOf]; omega⟩ | (go_roundw; all_goals first | exact ⟨k + 1, by omega, by go_num, by go_num, hw.out⟩ | (simp [intOf]; omega))
    · obtain rfl : k = n := by omega
      go_wp2
      go_ret
      exact ⟨ret_int (by omega), hw.out⟩
def TG (w w' : World) (r s : Option Nat) : Prop :=
  w'.os = w.os ∧ w'.tape = w.tape ∧ w'.output = w.output ∧ w.heap.size ≤ w'.heap.size ∧ ∀ k, k < w.heap.size → some k ≠ r → some k ≠ s → w'.heap[k]? = w.heap[k]?
theorem TG.trans {u v w : World} {r s : Option Nat} (h : TG u v r s) (k : TG v w r s) : TG u w r s :=
  ⟨k.1.trans h.1, k.2.1.trans h.2.1, k.2.2.1.trans h.2.2.1, Nat.le_trans h.2.2.2.1 k.2.2.2.1, fun i hi h1 h2 => (k.2.2.2.2 i (Nat.lt_of_lt_of_le hi h.2.2.2.1) h1 h2).trans (h.2.2.2.2 i hi h1 h2)⟩
theorem TG.right {w w' : World} {s : Option Nat} (h : w.grownBy w' s) (r : Option Nat) : TG w w' r s := ⟨h.os, h.tape, h.output, h.size, fun k hk _ h1 => h.block k hk h1⟩
theorem TG.ofBelow {w w' : World} (h : Below w.heap.size w w') (r s : Option Nat) : TG w w' r s := ⟨h.os, h.tape, h.output, h.size, fun k hk _ _ => h.block k hk⟩
theorem TG.below {w u v : World} {N : Nat} {r s : Option Nat} (h : Below N w u) (hN : N ≤ u.heap.size) (k : TG u v r s) (hr : ∀ i, r = some i → N ≤ i) (hs : ∀ i, s = some i → N ≤ i) : Below N w v :=
  ⟨k.1.trans h.os, k.2.1.trans h.tape, k.2.2.1.trans h.output, Nat.le_trans h.size k.2.2.2.1, fun i hi => (k.2.2.2.2 i (Nat.lt_of_lt_of_le hi hN) (fun e => by have := hr i e.symm; omega) (fun e => by have := hs i e.symm; omega)).trans (h.block i hi)⟩
theorem TG.kept {w w' : World} {r s : Option Nat} (k : TG w w' r s) {base e size n : Nat} {v : Value} {xs : List Value} (h : w.ownsRow base e size v n xs) (h1 : ∀ i, v.ownBlock = some i → some i ≠ r ∧ some i ≠ s) : w'.ownsRow base e size v n xs := by
  refine ⟨h.1, ?_⟩
  rcases h.2 with hn | ⟨g, cap, cur, rfl, hb, hg, rest⟩
  · exact .inl hn
  · have hlt : g < w.heap.size := (Array.getElem?_eq_some_iff.1 hg).1
    have hne := h1 g rfl
    exact .inr ⟨g, cap, cur, rfl, hb, (k.2.2.2.2 g hlt hne.1 hne.2).trans hg, rest⟩
end Go.Proofs.YtahccighonddaaaGreatDoor
