/- Rows of numbers cut, and with one more. -/
import Derived.Test.YtgjomkgbpfklkaaTxnEnd
namespace Go.Proofs.Ytgjomkgbpfklkaa
open Go.RowKit

/-- Where a slice of numbers begins that is cut from i to j. -/
def ncutAt (a : Option Addr) (i j : Nat) : Option Addr := if j = i then a else a.map fun x => ⟨x.block, x.off + i, none⟩
theorem ncutAt_none {a : Option Addr} {i j : Nat} (e : ncutAt a i j = none) : a = none := by
  unfold ncutAt at e
  split at e
  · exact e
  · cases a with
    | none => rfl
    | some y => simp at e
theorem cut_nums {w : World} {a : Option Addr} {n i j : Nat} {l : List Int} (h : Nums w a n l) (hij : i ≤ j) (hj : j ≤ n) : Nums w (ncutAt a i j) (j - i) ((l.drop i).take (j - i)) := by
  have hl : l.length = n := h.1
  refine ⟨by simp; omega, fun k hk => ?_⟩
  have hk' : k < j - i := by simp at hk; omega
  obtain ⟨b, off, e, hc⟩ := h.2 (i + k) (by omega)
  refine ⟨b, off + i, ?_, ?_⟩
  · unfold ncutAt; rw [if_neg (by omega), e]; rfl
  · rw [show off + i + k = off + (i + k) by omega, hc]; simp
set_option maxHeartbeats 1000000 in
theorem impl_cutN (a : Option Addr) (n c i j : Nat) (w : World) (hij : i ≤ j) (hj : j ≤ n) (hc : n ≤ c) (hm : c ≤ maxLen) (hnil : a = none → n = 0 ∧ c = 0) (hoff : ∀ x, a = some x → x = ⟨x.block, x.off, none⟩) :
    Calls Try.prog 51 #[.slice a n c, .int .i64 i, .int .i64 j] w fun x w' => x = .returned (.slice (ncutAt a i j) (j - i) (j - i)) ∧ w' = w := by
  unfold maxLen at hm
  cases a with
  | some x =>
    obtain ⟨b, off, e⟩ : ∃ b off, x = ⟨b, off, none⟩ := ⟨_, _, hoff x rfl⟩
    subst e
    clear hnil hoff
    by_cases h : j = i
    · subst h
      go_enter Try.func51, Try.ntmps51
      go_wp2
      go_ret
      refine ⟨?_, rfl⟩
      simp [ncutAt]
    · have hE : Hid (ncutAt (some ⟨b, off, none⟩) i j = some ⟨b, off + i, none⟩) := show _ = _ by simp [ncutAt, h]
      go_enter Try.func51, Try.ntmps51
      go_wp2
      go_ret
      refine ⟨?_, rfl⟩
      rw [hE.out]
      rfl
  | none =>
    obtain ⟨rfl, rfl⟩ := hnil rfl
    obtain rfl : j = 0 := by omega
    obtain rfl : i = 0 := by omega
    go_enter Try.func51, Try.ntmps51
    go_wp2
    go_ret
    exact ⟨rfl, rfl⟩
theorem with_finN {w : World} {base m m' : Nat} {v : Value} {l r : List Int} {g : Int} (h : w.ownsRow base 2 1 v m ((numCells l ++ [.int .i64 g]) ++ numCells r)) (e : m = m') : w.ownsRow base 2 1 v m' (numCells (l ++ g :: r)) := by
  subst e
  simpa using h
set_option maxRecDepth 100000 in
set_option maxHeartbeats 2000000 in
theorem impl_withN (a : Option Addr) (n c k : Nat) (l : List Int) (g : Int) (w : World) (hi : NumIn w a n c l) (hk : k ≤ n) (hc : c ≤ maxLen) (hn : n ≤ 1048576) :
    Calls Try.prog 32 #[.slice a n c, .int .i64 k, .int .i64 g] w fun x w' => ∃ a' c', x = .returned (.slice a' (n + 1) c') ∧ NumIn w' a' (n + 1) c' (l.take k ++ g :: l.drop k) ∧ Below w.heap.size w w' ∧ ∀ x, a' = some x → w.heap.size ≤ x.block := by
  obtain ⟨i0, hi0, hz0, hz1, hz2⟩ := info_parts info_i64
  have H1 : Hid (∀ w, Calls Try.prog 51 #[.slice a n c, .int .i64 0, .int .i64 k] w fun x w' => x = .returned (.slice (ncutAt a 0 k) k k) ∧ w' = w) := fun w => impl_cutN a n c 0 k w (by omega) hk hi.cap hc hi.nil hi.off
  have H2 : Hid (∀ w, Calls Try.prog 51 #[.slice a n c, .int .i64 k, .int .i64 n] w fun x w' => x = .returned (.slice (ncutAt a k n) (n - k) (n - k)) ∧ w' = w) := fun w => impl_cutN a n c k n w hk (Nat.le_refl _) hi.cap hc hi.nil hi.off
  have HI : Hid (NumIn w a n c l) := hi
  have HL : Hid (l.length = n) := hi.nums.1
  clear hi
  have HO : Hid (∀ W, Below w.heap.size w W → ∀ x, ncutAt a 0 k = some x → ∀ j u, (numCells (l.take k))[j]? = some u → W.cell? (x.add j) = some u) := fun W hb => nums_news (n := k) (by have h := cut_nums (nums_below HI.out.nums hb) (Nat.zero_le k) hk; simpa using h)
  have HN : Hid (∀ W, Below w.heap.size w W → ∀ x, ncutAt a k n = some x → ∀ j u, (numCells (l.drop k))[j]? = some u → W.cell? (x.add j) = some u) := fun W hb => nums_news (n := n - k) (by have h := cut_nums (nums_below HI.out.nums hb) hk (Nat.le_refl n); rwa [List.take_of_length_le (by simp; rw [HL.out]; omega)] at h)
  have HZ1 : Hid ((numCells (l.take k)).length = k * 1) := show _ = _ by rw [List.length_map, List.length_take, HL.out]; omega
  have HZ2 : Hid ((numCells (l.drop k)).length = (n - k) * 1) := show _ = _ by rw [List.length_map, List.length_drop, HL.out]; omega
  have HN1 : Hid (ncutAt a 0 k = none → k = 0) := fun e => by have := (HI.out.nil (ncutAt_none e)).1; omega
  have HN2 : Hid (ncutAt a k n = none → n - k = 0 ∧ n - k = 0) := fun e => by have := (HI.out.nil (ncutAt_none e)).1; omega
  obtain ⟨x1, e1⟩ : ∃ x, ncutAt a 0 k = x := ⟨_, rfl⟩
  obtain ⟨x2, e2⟩ : ∃ x, ncutAt a k n = x := ⟨_, rfl⟩
  rw [e1] at H1 HO HN1
  rw [e2] at H2 HN HN2
  clear e1 e2
  have HBW : Hid (Below w.heap.size w (w.alloc (.cells #[.int .i64 g] 2))) := tbelow_new _ _
  go_enter Try.func32, Try.ntmps32
  go_wp2_with fail
  refine (H1.out _).mono ?_
  rintro x w1 ⟨rfl, hw1⟩
  rw [hw1]
  clear hw1 w1
  go_wp2_with (at_builtin; refine wpList_append_full (by rfl) _ _ _ (by rfl) 2 i0 _ 1 8 Try.underlying47 hi0 hz0 hz1 hz2 (by rfl) (by omega) x1 k (numCells (l.take k)) (by rfl) HN1.out HZ1.out (HO.out _ HBW.out) ⟨w.heap.size, 0, none⟩ 1 1 [.int .i64 g] (by rfl) (by rfl) (cell_one_new _ _ _) (by simp [Value.oneCell']) (by omega) (by unfold maxLen; omega) (by omega) ?_; intro v1 w2 ho2 hg2)
  have hBB : Below w.heap.size w w2 := HBW.out.grown hg2 (by simp) (fun _ e => by cases e)
  have hbs := hg2.size
  have HB2 : Hid (Below w.heap.size w w2) := hBB
  have HO2 : Hid (w2.ownsRow (w.alloc (.cells #[.int .i64 g] 2)).heap.size 2 1 v1 (k + 1) (numCells (l.take k) ++ [.int .i64 g])) := ho2
  clear ho2 hg2 hBB
  refine (H2.out _).mono ?_
  rintro x w3 ⟨rfl, hw3⟩
  rw [hw3]
  clear hw3 w3
  go_wp2_with (at_builtin; refine wpList_append_own_any (by rfl) _ _ _ (by rfl) _ 2 i0 _ 1 8 Try.underlying47 hi0 hz0 hz1 hz2 (by rfl) (by omega) v1 (k + 1) _ (by rfl) HO2.out x2 (n - k) (n - k) (numCells (l.drop k)) (by rfl) HZ2.out HN2.out (HN.out _ HB2.out) (numCells_one _) (by unfold maxLen; omega) (by omega) hbs ?_; intro v2 w3 ho3 hg3)
  have hfin := with_finN ho3 (show k + 1 + (n - k) = n + 1 by omega)
  obtain ⟨a', c', hv, hci⟩ := own_numIn hfin
  have HCI : Hid (NumIn w3 a' (n + 1) c' (l.take k ++ g :: l.drop k)) := hci
  have HNW : Hid (∀ x, a' = some x → w.heap.size ≤ x.block) := fun x e => by
    rw [hv] at hfin
    obtain ⟨q, e2⟩ := own_nform hfin (by omega)
    rw [e2] at e
    cases e
    have h := (hfin.lt q (by rw [e2]; rfl)).1
    simp at h
    show w.heap.size ≤ q
    omega
  have HB3 : Hid (Below w.heap.size w w3) := HB2.out.grown hg3 HB2.out.size (fun q e => by have h := (HO2.out.lt q e).1; simp at h; omega)
  rw [hv]
  clear hci hfin hv ho3 hg3
  go_wp2
  go_ret
  exact ⟨a', c', rfl, HCI.out, HB3.out, HNW.out⟩
theorem touch_keep {w w1 w3 : World} {o0 o1 : Obj} {a : Option Addr} {n c k : Nat} {l : List Int} {v : Value} (h : T2 w w1 o0 o1) (hn : NumIn w3 a n c l) (ha : ∀ x, a = some x → w1.heap.size ≤ x.block) : NumIn (w3.setCell ⟨w.heap.size, k, none⟩ v) a n c l := by
  have hz := h.size
  refine ⟨⟨hn.nums.1, fun i hi => ?_⟩, fun x e => by simpa [World.setCell] using hn.lt x e, hn.nil, hn.cap, hn.off⟩
  obtain ⟨b, off, e, hc⟩ := hn.nums.2 i hi
  have hb := ha _ e
  refine ⟨b, off, e, ?_⟩
  rw [← hc]
  exact World.cell?_of_block (Below.heap_setCell w3 ⟨w.heap.size, k, none⟩ v b (show b ≠ w.heap.size by have : w1.heap.size ≤ b := hb; omega))
end Go.Proofs.Ytgjomkgbpfklkaa
