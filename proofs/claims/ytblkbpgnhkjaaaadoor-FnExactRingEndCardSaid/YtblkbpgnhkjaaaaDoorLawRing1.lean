/- The laws' marks on rings. -/
import Derived.Test.YtblkbpgnhkjaaaaDoorLawRing0
import Derived.Laws.AppendOwn
import Derived.Laws.OwnMore
import Derived.Maps.AppendAt
import Derived.Maps.Range
import Derived.Maps.RangeWalk
import Derived.OwnWalk
namespace Go.Proofs.YtblkbpgnhkjaaaaDoor
open Go.RowKit

theorem below_grown {w w' : World} (h : Below w.heap.size w w') : w.grownBy w' none := ⟨h.os, h.tape, h.output, h.size, fun k hk _ => h.block k hk⟩
def markGo : Nat → Nat → List UInt8 → List UInt8
  | 0, _, out => out
  | f + 1, k, out => if k = 0 then out else markGo f (k / 10) (UInt8.ofNat (48 + k % 10) :: out)
/-- The text with which place k is marked. -/
def markB (k : Nat) : ByteArray := ⟨(109 :: markGo 32 k []).toArray⟩
theorem markGo_zero (f : Nat) (out : List UInt8) : markGo f 0 out = out := by cases f <;> simp [markGo]
theorem markGo_succ (f k : Nat) (out : List UInt8) (h : 0 < k) : markGo (f + 1) k out = markGo f (k / 10) (UInt8.ofNat (48 + k % 10) :: out) := by
  have : ¬ k = 0 := by omega
  simp [markGo, this]
theorem mark_byte (k : Nat) : ((UInt8.ofNat (48 + k % 10)).toNat : Int) = 48 + (k : Int) % 10 := by
  have h : k % 10 < 10 := Nat.mod_lt _ (by omega)
  have e : (UInt8.ofNat (48 + k % 10)).toNat = 48 + k % 10 := by
    simp; omega
  rw [e]
  omega
/-- 'string([]byte{x})', the byte just laid. -/
theorem conv_one {P : Program} (w : World) (src dst e : TypeId) (b : UInt8) (x : Int) (hx : x = (b.toNat : Int)) (hs : P.underlying src = some (.slice e)) (he : P.underlying e = some (.int .u8)) (hd : P.underlying dst = some .string) :
    (convert src dst (.slice (some ⟨w.heap.size, 0, none⟩) 1 1)).run P (w.alloc (.cells #[.int .u8 x] e)) = .ok (.string ⟨#[b]⟩) (w.alloc (.cells #[.int .u8 x] e)) := by
  subst hx
  refine run_convert_bytes_back _ src dst e ⟨w.heap.size, 0, none⟩ 1 [b] hs he hd fun j hj => ?_
  have : j = 0 := by simp at hj; omega
  subst this
  exact World.cell?_alloc_new _ _ _ _
/-- The first i of a row of texts, marked from K on. -/
def mStr (K : Nat) (xs : List Value) (i : Nat) : List Value := xs.mapIdx fun j x => if j < i then .string (markB (K + j)) else x
/-- The cells of the first i cursors, marked from K on. -/
def mCur (K : Nat) (xs : List Value) (i : Nat) : List Value := xs.mapIdx fun j x => if j < i then .int .i64 ((K + j : Nat) : Int) else x
theorem mapIdx_same (xs : List Value) : xs.mapIdx (fun _ x => x) = xs := by
  apply List.ext_getElem?
  intro j
  simp
theorem mStr_zero (K : Nat) (xs : List Value) : mStr K xs 0 = xs := by simp [mStr, mapIdx_same]
theorem mCur_zero (K : Nat) (xs : List Value) : mCur K xs 0 = xs := by simp [mCur, mapIdx_same]
theorem mStr_set (K : Nat) (xs : List Value) (i : Nat) (h : i < xs.length) : (mStr K xs i).set i (.string (markB (K + i))) = mStr K xs (i + 1) := by
  apply List.ext_getElem?
  intro j
  by_cases hj : i = j
  · subst hj
    simp [mStr, h]
  · rw [List.getElem?_set_ne hj]
    simp only [mStr, List.getElem?_mapIdx]
    cases xs[j]? with
    | none => rfl
    | some x =>
      by_cases h1 : j < i
      · have : j < i + 1 := by omega
        simp [h1, this]
      · have : ¬ j < i + 1 := by omega
        simp [h1, this]
theorem mCur_set (K : Nat) (xs : List Value) (i : Nat) (h : i < xs.length) : (mCur K xs i).set i (.int .i64 ((K + i : Nat) : Int)) = mCur K xs (i + 1) := by
  apply List.ext_getElem?
  intro j
  by_cases hj : i = j
  · subst hj
    simp [mCur, h]
  · rw [List.getElem?_set_ne hj]
    simp only [mCur, List.getElem?_mapIdx]
    cases xs[j]? with
    | none => rfl
    | some x =>
      by_cases h1 : j < i
      · have : j < i + 1 := by omega
        simp [h1, this]
      · have : ¬ j < i + 1 := by omega
        simp [h1, this]
theorem mStr_length (K : Nat) (xs : List Value) (i : Nat) : (mStr K xs i).length = xs.length := by simp [mStr]
theorem mCur_length (K : Nat) (xs : List Value) (i : Nat) : (mCur K xs i).length = xs.length := by simp [mCur]
theorem mStr_at (K : Nat) (xs : List Value) (i : Nat) (h : i < xs.length) : (mStr K xs xs.length)[i]? = some (.string (markB (K + i))) := by simp [mStr, h]
theorem mCur_at (K : Nat) (xs : List Value) (i : Nat) (h : i < xs.length) : (mCur K xs xs.length)[i]? = some (.int .i64 ((K + i : Nat) : Int)) := by simp [mCur, h]
theorem own_form {w : World} {base e size n : Nat} {a : Option Addr} {c : Nat} {xs : List Value} (h : w.ownsRow base e size (.slice a n c) n xs) (hn : 0 < n) : ∃ g, a = some ⟨g, 0, none⟩ := by
  rcases h.2 with ⟨e1, h0⟩ | ⟨g, cap, cur, e1, _⟩
  · omega
  · simp only [Value.slice.injEq] at e1
    exact ⟨g, e1.1⟩
end Go.Proofs.YtblkbpgnhkjaaaaDoor
