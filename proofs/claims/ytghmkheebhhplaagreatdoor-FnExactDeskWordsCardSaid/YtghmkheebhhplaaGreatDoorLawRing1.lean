/- The laws' marks on rings. -/
import Derived.Test.YtghmkheebhhplaaGreatDoorLawRing0
import Derived.Laws.AppendOwn
import Derived.Laws.OwnMore
import Derived.Maps.AppendAt
import Derived.Maps.Range
import Derived.Maps.RangeWalk
import Derived.OwnWalk
namespace Go.Proofs.YtghmkheebhhplaaGreatDoor
open Go.RowKit

theorem below_grown {w w' : World} (h : Below w.heap.size w w') : w.grownBy w' none := ⟨h.os, h.tape, h.output, h.size, fun k hk _ => h.block k hk⟩
def markGo : Nat → Nat → List UInt8 → List UInt8
  | 0, _, out => out
  | f + 1, k, out => if k = 0 then out else markGo f (k / 10) (UInt8.ofNat (48 + k % 10) :: out)
/-- The text with which place k is marked. -/
def markB (k : Nat) : ByteArray := ⟨(109 :: markGo 32 k []).toArray⟩
theorem markGo_zero (f : Nat) (out : List UInt8) : markGo f 0 out = out := by cases f <;> simp [markGo]
theorem markGo_succ (f k : Nat) (out : List UInt8) (h : 0 < k) : markGo (f + 1) k out = markGo f (k / 10) (UInt8.ofNat (48 + k % 10) :: out) := by
  have : ¬ k = 0 := by omega
  simp [markGo, this]
theorem mark_byte (k : Nat) : ((UInt8.ofNat (48 + k % 10)).toNat : Int) = 48 + (k : Int) % 10 := by
  have h : k % 10 < 10 := Nat.mod_lt _ (by omega)
  have e : (UInt8.ofNat (48 + k % 10)).toNat = 48 + k % 10 := by
    simp; omega
  rw [e]
  omega
/-- 'string([]byte{x})', the byte just laid. -/
theorem conv_one {P : Program} (w : World) (src dst e : TypeId) (b : UInt8) (x : Int) (hx : x = (b.toNat : Int)) (hs : P.underlying src = some (.slice e)) (he : P.underlying e = some (.int .u8)) (hd : P.underlying dst = some .string) :
    (convert src dst (.slice (some ⟨w.heap.size, 0, none⟩) 1 1)).run P (w.alloc (.cells #[.int .u8 x] e)) = .ok (.string ⟨#[b]⟩) (w.alloc (.cells #[.int .u8 x] e)) := by
  subst hx
  refine run_convert_bytes_back _ src dst e ⟨w.heap.size, 0, none⟩ 1 [b] hs he hd fun j hj => ?_
  have : j = 0 := by simp at hj; omega
  subst this
  exact World.cell?_alloc_new _ _ _ _
set_option maxHeartbeats 1000000 in
theorem law_markText (K : Nat) (w : World) (h0 : 0 < K) (h1 : K ≤ 1000000000) :
    Calls Tryz.prog 11 #[.int .i64 K] w fun e w' => e = .returned (.string (markB K)) ∧ Below w.heap.size w w' := by
  go_enter Tryz.func11, Tryz.ntmps11
  go_wp2
  go_loopw [0, 3] (fun k o wr => ∃ (f j : Nat) (out : List UInt8), k = .int .i64 j ∧ o = .string ⟨out.toArray⟩ ∧ out.length + f = 32 ∧ Hid (j ≤ 1000000000) ∧ Hid (j < 10 ^ f) ∧ Hid (markGo f j out = markGo 32 K []) ∧ Hid (Below w.heap.size w wr)) (fun k _ _ => (intOf k).toNat)
  case atStart => exact ⟨32, K, [], rfl, rfl, rfl, h1, show K < 10 ^ 32 by omega, rfl, Below.refl _ _⟩
  case round =>
    obtain ⟨f, j, out, rfl, rfl, hl, hj, hf, he, hw⟩ := hrel
    by_cases hlt : 0 < j
    · have hj' := hj.out
      have hcv := fun (w : World) => conv_one (P := Tryz.prog) w 36 9 5 (UInt8.ofNat (48 + j % 10)) (48 + (j : Int) % 10) (mark_byte j).symm Tryz.underlying36 Tryz.underlying5 Tryz.underlying9
      obtain ⟨f', rfl⟩ : ∃ f', f = f' + 1 := by
        cases f with
        | zero => have := hf.out; simp at this; omega
        | succ n => exact ⟨n, rfl⟩
      have hpow : Hid (j / 10 < 10 ^ f') := by
        have h := hf.out
        rw [Nat.pow_succ] at h
        exact Nat.div_lt_of_lt_mul (by omega)
      have hx : Hid (markGo f' (j / 10) (UInt8.ofNat (48 + j % 10) :: out) = markGo 32 K []) := by
        have h := he.out
        rw [markGo_succ f' j out hlt] at h
        exact h
      clear he hf
      go_wp2
      refine ⟨⟨f', j / 10, UInt8.ofNat (48 + j % 10) :: out, by go_num, ?_, by simp; omega, show j / 10 ≤ 1000000000 by omega, hpow.out, hx.out, hw.out.alloc hw.out.size _⟩, by simp [intOf]; omega⟩
      rw [cat_eq [_]]
      simp
    · obtain rfl : j = 0 := by omega
      have hx : Hid (out = markGo 32 K []) := (markGo_zero f out).symm.trans he.out
      go_wp2
      go_ret
      refine ⟨ret_string ?_, hw.out⟩
      rw [cat_eq [_]]
      simp [markB, hx.out]
/-- The first i of a row of texts, marked from K on. -/
def mStr (K : Nat) (xs : List Value) (i : Nat) : List Value := xs.mapIdx fun j x => if j < i then .string (markB (K + j)) else x
/-- The cells of the first i cursors, marked from K on. -/
def mCur (K : Nat) (xs : List Value) (i : Nat) : List Value := xs.mapIdx fun j x => if j < i then .int .i64 ((K + j : Nat) : Int) else x
theorem mapIdx_same (xs : List Value) : xs.mapIdx (fun _ x => x) = xs := by
  apply List.ext_getElem?
  intro j
  simp
theorem mStr_zero (K : Nat) (xs : List Value) : mStr K xs 0 = xs := by simp [mStr, mapIdx_same]
theorem mCur_zero (K : Nat) (xs : List Value) : mCur K xs 0 = xs := by simp [mCur, mapIdx_same]
theorem mStr_set (K : Nat) (xs : List Value) (i : Nat) (h : i < xs.length) : (mStr K xs i).set i (.string (markB (K + i))) = mStr K xs (i + 1) := by
  apply List.ext_getElem?
  intro j
  by_cases hj : i = j
  · subst hj
    simp [mStr, h]
  · rw [List.getElem?_set_ne hj]
    simp only [mStr, List.getElem?_mapIdx]
    cases xs[j]? with
    | none => rfl
    | some x =>
      by_cases h1 : j < i
      · have : j < i + 1 := by omega
        simp [h1, this]
      · have : ¬ j < i + 1 := by omega
        simp [h1, this]
theorem mCur_set (K : Nat) (xs : List Value) (i : Nat) (h : i < xs.length) : (mCur K xs i).set i (.int .i64 ((K + i : Nat) : Int)) = mCur K xs (i + 1) := by
  apply List.ext_getElem?
  intro j
  by_cases hj : i = j
  · subst hj
    simp [mCur, h]
  · rw [List.getElem?_set_ne hj]
    simp only [mCur, List.getElem?_mapIdx]
    cases xs[j]? with
    | none => rfl
    | some x =>
      by_cases h1 : j < i
      · have : j < i + 1 := by omega
        simp [h1, this]
      · have : ¬ j < i + 1 := by omega
        simp [h1, this]
theorem mStr_length (K : Nat) (xs : List Value) (i : Nat) : (mStr K xs i).length = xs.length := by simp [mStr]
theorem mCur_length (K : Nat) (xs : List Value) (i : Nat) : (mCur K xs i).length = xs.length := by simp [mCur]
theorem mStr_at (K : Nat) (xs : List Value) (i : Nat) (h : i < xs.length) : (mStr K xs xs.length)[i]? = some (.string (markB (K + i))) := by simp [mStr, h]
theorem mCur_at (K : Nat) (xs : List Value) (i : Nat) (h : i < xs.length) : (mCur K xs xs.length)[i]? = some (.int .i64 ((K + i : Nat) : Int)) := by simp [mCur, h]
theorem own_form {w : World} {base e size n : Nat} {a : Option Addr} {c : Nat} {xs : List Value} (h : w.ownsRow base e size (.slice a n c) n xs) (hn : 0 < n) : ∃ g, a = some ⟨g, 0, none⟩ := by
  rcases h.2 with ⟨e1, h0⟩ | ⟨g, cap, cur, e1, _⟩
  · omega
  · simp only [Value.slice.injEq] at e1
    exact ⟨g, e1.1⟩
set_option maxHeartbeats 1000000 in
theorem law_markStrs (a : Option Addr) (n c base : Nat) (xs : List Value) (K : Nat) (w : World) (hown : w.ownsRow base 9 1 (.slice a n c) n xs) (hK : 0 < K) (hm : K + n ≤ 100000000) :
    Calls Tryz.prog 7 #[.slice a n c, .int .i64 K] w fun e w' => e = .returned (.int .i64 ((K + n : Nat) : Int)) ∧ w'.ownsRow base 9 1 (.slice a n c) n (mStr K xs n) ∧ w.grownBy w' (Value.slice a n c).ownBlock := by
  have hlen : xs.length = n := by simpa using hown.1
  have HO : Hid _ := hown
  clear hown
  go_enter Tryz.func7, Tryz.ntmps7
  go_wp2
  go_loopw [1, 5] (fun q i wr => ∃ k : Nat, k ≤ n ∧ i = .int .i64 k ∧ q = .int .i64 ((K + k : Nat) : Int) ∧ Hid (wr.ownsRow base 9 1 (.slice a n c) n (mStr K xs k)) ∧ Hid (w.grownBy wr (Value.slice a n c).ownBlock)) (fun _ i _ => n - (intOf i).toNat)
  case atStart => exact ⟨0, by omega, rfl, by go_num, by rw [mStr_zero]; exact HO.out, World.grownBy.refl _ _⟩
  case round =>
    obtain ⟨k, hk, rfl, rfl, ho, hw⟩ := hrel
    by_cases hlt : k < n
    · obtain ⟨g, rfl⟩ := own_form ho.out (by omega)
      have hcl := ho.out.cellAt k (by omega)
      have hlt2 := ho.out.lt g rfl
      obtain ⟨x, hx⟩ : ∃ x, (mStr K xs k)[k]? = some x := ⟨_, List.getElem?_eq_getElem (by rw [mStr_length]; omega)⟩
      rw [hx] at hcl
      have hfr := ho.out.frozenAt k
      clear hx
      go_wp2_with (go_at_call 11; refine (law_markText (K + k) _ (by omega) (by omega)).mono ?_; rintro e w1 ⟨rfl, hb1⟩; have hc1 := (hb1.cell (p := ⟨g, k, none⟩) hlt2.2).trans hcl; have hf1 := (hb1.frozen (p := ⟨g, k, none⟩) hlt2.2).trans hfr; have ho1 : Hid (w1.ownsRow base 9 1 (.slice (some ⟨g, 0, none⟩) n c) n (mStr K xs k)) := ho.out.kept (World.grownBy.but (below_grown hb1) none) (.inr (by simp [Value.ownBlock])); have hw1 : Hid _ := hw.out.trans ((below_grown hb1).but _); clear hb1)
      obtain ⟨hs1, hs2⟩ := ho1.out.stored k (.string (markB (K + k)))
      rw [mStr_set K xs k (by omega)] at hs1
      exact ⟨⟨k + 1, by omega, by go_num, by go_num, hs1, hw1.out.trans hs2⟩, by simp [intOf]; omega⟩
    · obtain rfl : k = n := by omega
      go_wp2
      go_ret
      exact ⟨ret_int (by omega), ho.out, hw.out⟩
set_option maxHeartbeats 1000000 in
theorem law_heldStrs (a : Option Addr) (n c base : Nat) (xs : List Value) (K : Nat) (w : World) (hown : w.ownsRow base 9 1 (.slice a n c) n (mStr K xs n)) (hx : xs.length = n) (hK : 0 < K) (hm : K + n ≤ 100000000) :
    Calls Tryz.prog 8 #[.slice a n c, .int .i64 K] w fun e w' => e = .returned (.int .i64 ((K + n : Nat) : Int)) ∧ Below w.heap.size w w' := by
  have HO : Hid (w.ownsRow base 9 1 (.slice a n c) n (mStr K xs n)) := hown
  clear hown
  go_enter Tryz.func8, Tryz.ntmps8
  go_wp2
  go_loopw [1, 5] (fun q i wr => ∃ k : Nat, k ≤ n ∧ i = .int .i64 k ∧ q = .int .i64 ((K + k : Nat) : Int) ∧ Hid (Below w.heap.size w wr)) (fun _ i _ => n - (intOf i).toNat)
  case atStart => exact ⟨0, by omega, rfl, by go_num, Below.refl _ _⟩
  case round =>
    obtain ⟨k, hk, rfl, rfl, hw⟩ := hrel
    by_cases hlt : k < n
    · obtain ⟨g, rfl⟩ := own_form HO.out (by omega)
      have hcl := HO.out.cellAt k (by omega)
      have hlt2 := HO.out.lt g rfl
      have hxk : (mStr K xs n)[k]? = some (.string (markB (K + k))) := by rw [← hx]; exact mStr_at K xs k (by omega)
      rw [hxk, ← hw.out.cell (p := ⟨g, k, none⟩) hlt2.2] at hcl
      clear hxk
      have hsz := hw.out.size
      go_wp2
      go_region_with (go_at_call 11; refine (law_markText (K + k) _ (by omega) (by omega)).mono ?_; rintro e w1 ⟨rfl, hb1⟩; have hc1 := (hb1.cell (p := ⟨g, k, none⟩) (Nat.lt_of_lt_of_le hlt2.2 hsz)).trans hcl; have hw1 : Hid (Below w.heap.size w w1) := below_tr hw.out.drew hb1; clear hb1)
      all_goals go_wp2
      all_goals first | exact ⟨⟨k + 1, by omega, by go_num, by go_num, hw1.out⟩, by simp [intOf]; omega⟩ | (go_roundw; all_goals first | exact ⟨k + 1, by omega, by go_num, by go_num, hw1.out⟩ | (simp [intOf]; omega))
    · obtain rfl : k = n := by omega
      go_wp2
      go_ret
      exact ⟨ret_int (by omega), hw.out⟩
end Go.Proofs.YtghmkheebhhplaaGreatDoor
