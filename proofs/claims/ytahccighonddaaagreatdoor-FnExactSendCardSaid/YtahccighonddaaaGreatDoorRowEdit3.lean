import Derived.Test.YtahccighonddaaaGreatDoorAppendMore
import Derived.Test.YtahccighonddaaaGreatDoorLawRing4
import Derived.Test.YtahccighonddaaaGreatDoorRingNew
import Derived.Deep.RegionHeld3
import Derived.Deep.DeepCutAuto
import Derived.Deep.DrawnRows
namespace Go.Proofs.YtahccighonddaaaGreatDoor
open Go.RowKit
attribute [local go_sem ↓] Go.wp_at_zero Go.wp_at_succ
structure CurIn (w : World) (a : Option Addr) (n c : Nat) (l : List (Int × Int)) : Prop where
  curs : Curs w a n l
  lt : ∀ x, a = some x → x.block < w.heap.size
  nil : a = none → n = 0 ∧ c = 0
  cap : n ≤ c
  off : ∀ x, a = some x → x = ⟨x.block, x.off, none⟩
structure StrIn (w : World) (a : Option Addr) (n c : Nat) (l : List ByteArray) : Prop where
  strs : Strs w a n l
  lt : ∀ x, a = some x → x.block < w.heap.size
  nil : a = none → n = 0 ∧ c = 0
  cap : n ≤ c
  off : ∀ x, a = some x → x = ⟨x.block, x.off, none⟩
def cutAt (a : Option Addr) (size i j : Nat) : Option Addr := if j = i then a else a.map fun x => ⟨x.block, x.off + i * size, none⟩
set_option maxHeartbeats 1000000 in
theorem impl_cutS (a : Option Addr) (n c i j : Nat) (w : World) (hij : i ≤ j) (hj : j ≤ n) (hc : n ≤ c) (hm : c ≤ maxLen) (hnil : a = none → n = 0 ∧ c = 0) (hoff : ∀ x, a = some x → x = ⟨x.block, x.off, none⟩) :
    Calls Tryz.prog 179 #[.slice a n c, .int .i64 i, .int .i64 j] w fun e w' => e = .returned (.slice (cutAt a 1 i j) (j - i) (j - i)) ∧ w' = w := by
  unfold maxLen at hm
  cases a with
  | some x =>
    obtain ⟨b, off, e⟩ : ∃ b off, x = ⟨b, off, none⟩ := ⟨_, _, hoff x rfl⟩
    subst e
    clear hnil hoff
    by_cases h : j = i
    · subst h
      go_enter Tryz.func179, Tryz.ntmps179
      go_wp2
      go_ret
      refine ⟨?_, rfl⟩
      simp [cutAt]
    · have hE : Hid (cutAt (some ⟨b, off, none⟩) 1 i j = some ⟨b, off + i, none⟩) := show _ = _ by simp [cutAt, h]
      go_enter Tryz.func179, Tryz.ntmps179
      go_wp2
      go_ret
      refine ⟨?_, rfl⟩
      rw [hE.out]
      rfl
  | none =>
    obtain ⟨rfl, rfl⟩ := hnil rfl
    obtain rfl : j = 0 := by omega
    obtain rfl : i = 0 := by omega
    go_enter Tryz.func179, Tryz.ntmps179
    go_wp2
    go_ret
    exact ⟨rfl, rfl⟩
theorem cutAt_none {a : Option Addr} {size i j : Nat} (e : cutAt a size i j = none) : a = none := by
  unfold cutAt at e
  split at e
  · exact e
  · cases a with
    | none => rfl
    | some y => simp at e
theorem cut_strs {w : World} {a : Option Addr} {n i j : Nat} {l : List ByteArray} (h : Strs w a n l) (hij : i ≤ j) (hj : j ≤ n) : Strs w (cutAt a 1 i j) (j - i) ((l.drop i).take (j - i)) := by
  have hl : l.length = n := h.1
  refine ⟨by simp; omega, fun k hk => ?_⟩
  have hk' : k < j - i := by simp at hk; omega
  obtain ⟨b, off, e, hc⟩ := h.2 (i + k) (by omega)
  refine ⟨b, off + i * 1, ?_, ?_⟩
  · unfold cutAt; rw [if_neg (by omega), e]; rfl
  · rw [show off + i * 1 + k = off + (i + k) by omega, hc]; simp
theorem curs_news {w : World} {a : Option Addr} {n : Nat} {l : List (Int × Int)} (h : Curs w a n l) : ∀ x, a = some x → ∀ k u, (curCells l)[k]? = some u → w.cell? (x.add k) = some u := fun x e k u hu => by
  have hk : k < (curCells l).length := (List.getElem?_eq_some_iff.1 hu).1
  rw [curCells_length] at hk
  obtain ⟨b, off, e', hc, hd⟩ := h.2 (k / 2) (by omega)
  rw [e] at e'
  cases e'
  rw [Addr.add_lit]
  have hcc := curCells_at l (k / 2) (by omega)
  by_cases h2 : k = k / 2 * 2
  · rw [← h2] at hc hcc
    rw [hc, ← hu, hcc.1]
  · have h3 : k = k / 2 * 2 + 1 := by omega
    rw [show off + k / 2 * 2 + 1 = off + (k / 2 * 2 + 1) by omega, ← h3] at hd
    rw [← h3] at hcc
    rw [hd, ← hu, hcc.2]
theorem strs_news {w : World} {a : Option Addr} {n : Nat} {l : List ByteArray} (h : Strs w a n l) : ∀ x, a = some x → ∀ k u, (l.map Value.string)[k]? = some u → w.cell? (x.add k) = some u := fun x e k u hu => by
  have hk : k < l.length := by have := (List.getElem?_eq_some_iff.1 hu).1; simpa using this
  obtain ⟨b, off, e', hc⟩ := h.2 k hk
  rw [e] at e'
  cases e'
  rw [Addr.add_lit, hc, ← hu]
  simp [hk]
theorem curCells_one (l : List (Int × Int)) : ∀ u ∈ curCells l, u.oneCell' = true := by
  induction l with
  | nil => intro u hu; cases hu
  | cons c r ih =>
    intro u hu
    simp only [curCells, List.mem_cons] at hu
    rcases hu with rfl | rfl | hu
    · rfl
    · rfl
    · exact ih u hu
theorem strCells_one (l : List ByteArray) : ∀ u ∈ l.map Value.string, u.oneCell' = true := by
  intro u hu
  obtain ⟨s, _, rfl⟩ := List.mem_map.1 hu
  rfl
theorem own_curIn {w : World} {base n : Nat} {v : Value} {l : List (Int × Int)} (h : w.ownsRow base 96 2 v n (curCells l)) : ∃ a c, v = .slice a n c ∧ CurIn w a n c l := by
  have h' := h
  rcases h.2 with ⟨rfl, rfl⟩ | ⟨g, cap, cur, rfl, _, hg, hc, _⟩
  · exact ⟨none, 0, rfl, own_curs h', (fun x e => by cases e), (fun _ => ⟨rfl, rfl⟩), Nat.le_refl _, (fun x e => by cases e)⟩
  · exact ⟨some ⟨g, 0, none⟩, cap, rfl, own_curs h', (fun x e => by cases e; exact (Array.getElem?_eq_some_iff.1 hg).1), (fun e => by cases e), hc, (fun x e => by cases e; rfl)⟩
theorem own_strIn {w : World} {base n : Nat} {v : Value} {l : List ByteArray} (h : w.ownsRow base 9 1 v n (l.map Value.string)) : ∃ a c, v = .slice a n c ∧ StrIn w a n c l := by
  have h' := h
  rcases h.2 with ⟨rfl, rfl⟩ | ⟨g, cap, cur, rfl, _, hg, hc, _⟩
  · exact ⟨none, 0, rfl, own_strs h', (fun x e => by cases e), (fun _ => ⟨rfl, rfl⟩), Nat.le_refl _, (fun x e => by cases e)⟩
  · exact ⟨some ⟨g, 0, none⟩, cap, rfl, own_strs h', (fun x e => by cases e; exact (Array.getElem?_eq_some_iff.1 hg).1), (fun e => by cases e), hc, (fun x e => by cases e; rfl)⟩
end Go.Proofs.YtahccighonddaaaGreatDoor
namespace Go.Proofs.YtahccighonddaaaGreatDoor
open Go.RowKit
theorem with_finS {w : World} {base m m' : Nat} {v : Value} {l r : List ByteArray} {s : ByteArray} (h : w.ownsRow base 9 1 v m ((l.map Value.string ++ [.string s]) ++ r.map Value.string)) (e : m = m') : w.ownsRow base 9 1 v m' ((l ++ s :: r).map Value.string) := by
  subst e
  simpa using h
set_option maxRecDepth 100000 in
set_option maxHeartbeats 2000000 in
theorem impl_withS (a : Option Addr) (n c k : Nat) (l : List ByteArray) (s : ByteArray) (w : World) (hi : StrIn w a n c l) (hk : k ≤ n) (hc : c ≤ maxLen) (hn : n ≤ 1048576) :
    Calls Tryz.prog 222 #[.slice a n c, .int .i64 k, .string s] w fun e w' => ∃ a' c', e = .returned (.slice a' (n + 1) c') ∧ StrIn w' a' (n + 1) c' (l.take k ++ s :: l.drop k) ∧ Below w.heap.size w w' := by
  obtain ⟨i0, hi0, hz0, hz1, hz2⟩ := info_parts info_str
  have H1 : Hid (∀ w, Calls Tryz.prog 179 #[.slice a n c, .int .i64 0, .int .i64 k] w fun e w' => e = .returned (.slice (cutAt a 1 0 k) k k) ∧ w' = w) := fun w => impl_cutS a n c 0 k w (by omega) hk hi.cap hc hi.nil hi.off
  have H2 : Hid (∀ w, Calls Tryz.prog 179 #[.slice a n c, .int .i64 k, .int .i64 n] w fun e w' => e = .returned (.slice (cutAt a 1 k n) (n - k) (n - k)) ∧ w' = w) := fun w => impl_cutS a n c k n w hk (Nat.le_refl _) hi.cap hc hi.nil hi.off
  have HI : Hid (StrIn w a n c l) := hi
  have HL : Hid (l.length = n) := hi.strs.1
  clear hi
  have HO : Hid (∀ W, Below w.heap.size w W → ∀ x, cutAt a 1 0 k = some x → ∀ j u, ((l.take k).map Value.string)[j]? = some u → W.cell? (x.add j) = some u) := fun W hb => strs_news (n := k) (by have h := cut_strs (strs_below HI.out.strs hb) (Nat.zero_le k) hk; simpa using h)
  have HN : Hid (∀ W, Below w.heap.size w W → ∀ x, cutAt a 1 k n = some x → ∀ j u, ((l.drop k).map Value.string)[j]? = some u → W.cell? (x.add j) = some u) := fun W hb => strs_news (n := n - k) (by have h := cut_strs (strs_below HI.out.strs hb) hk (Nat.le_refl n); rwa [List.take_of_length_le (by simp; rw [HL.out]; omega)] at h)
  have HZ1 : Hid (((l.take k).map Value.string).length = k * 1) := show _ = _ by rw [List.length_map, List.length_take, HL.out]; omega
  have HZ2 : Hid (((l.drop k).map Value.string).length = (n - k) * 1) := show _ = _ by rw [List.length_map, List.length_drop, HL.out]; omega
  have HN1 : Hid (cutAt a 1 0 k = none → k = 0) := fun e => by have := (HI.out.nil (cutAt_none e)).1; omega
  have HN2 : Hid (cutAt a 1 k n = none → n - k = 0 ∧ n - k = 0) := fun e => by have := (HI.out.nil (cutAt_none e)).1; omega
  obtain ⟨x1, e1⟩ : ∃ x, cutAt a 1 0 k = x := ⟨_, rfl⟩
  obtain ⟨x2, e2⟩ : ∃ x, cutAt a 1 k n = x := ⟨_, rfl⟩
  rw [e1] at H1 HO HN1
  rw [e2] at H2 HN HN2
  clear e1 e2
  have HBW : Hid (Below w.heap.size w (w.alloc (.cells #[.string s] 9))) := (Below.refl _ _).alloc (Nat.le_refl _) _
  go_enter Tryz.func222, Tryz.ntmps222
  go_wp2_with fail
  refine (H1.out _).mono ?_
  rintro e w1 ⟨rfl, hw1⟩
  rw [hw1]
  clear hw1 w1
  go_wp2_with (at_builtin; refine wpList_append_full (by rfl) _ _ _ (by rfl) 9 i0 _ 1 16 Tryz.underlying214 hi0 hz0 hz1 hz2 (by rfl) (by omega) x1 k ((l.take k).map Value.string) (by rfl) HN1.out HZ1.out (HO.out _ HBW.out) ⟨w.heap.size, 0, none⟩ 1 1 [.string s] (by rfl) (by rfl) (cell_one_new _ _ _) (by simp [Value.oneCell']) (by omega) (by unfold maxLen; omega) (by omega) ?_; intro v1 w2 ho2 hg2)
  have hBB : Below w.heap.size w w2 := HBW.out.grown hg2 (by simp) (fun _ e => by cases e)
  have hbs := hg2.size
  have HB2 : Hid (Below w.heap.size w w2) := hBB
  have HO2 : Hid (w2.ownsRow (w.alloc (.cells #[.string s] 9)).heap.size 9 1 v1 (k + 1) ((l.take k).map Value.string ++ [.string s])) := ho2
  clear ho2 hg2 hBB
  refine (H2.out _).mono ?_
  rintro e w3 ⟨rfl, hw3⟩
  rw [hw3]
  clear hw3 w3
  go_wp2_with (at_builtin; refine wpList_append_own_any (by rfl) _ _ _ (by rfl) _ 9 i0 _ 1 16 Tryz.underlying214 hi0 hz0 hz1 hz2 (by rfl) (by omega) v1 (k + 1) _ (by rfl) HO2.out x2 (n - k) (n - k) ((l.drop k).map Value.string) (by rfl) HZ2.out HN2.out (HN.out _ HB2.out) (strCells_one _) (by unfold maxLen; omega) (by omega) hbs ?_; intro v2 w3 ho3 hg3)
  have hfin := with_finS ho3 (show k + 1 + (n - k) = n + 1 by omega)
  obtain ⟨a', c', hv, hci⟩ := own_strIn hfin
  have HCI : Hid (StrIn w3 a' (n + 1) c' (l.take k ++ s :: l.drop k)) := hci
  have HB3 : Hid (Below w.heap.size w w3) := HB2.out.grown hg3 HB2.out.size (fun q e => by have h := (HO2.out.lt q e).1; simp at h; omega)
  rw [hv]
  clear hci hfin hv ho3 hg3
  go_wp2
  go_ret
  exact ⟨a', c', rfl, HCI.out, HB3.out⟩
end Go.Proofs.YtahccighonddaaaGreatDoor
namespace Go.Proofs.YtahccighonddaaaGreatDoor
open Go.RowKit
end Go.Proofs.YtahccighonddaaaGreatDoor
