/- The laws' copies of rings, in memory of their own. -/
import Derived.Test.YtblkbpgnhkjaaaaDoorLawRing3
namespace Go.Proofs.YtblkbpgnhkjaaaaDoor
open Go.RowKit

theorem info_str : (Tryd.prog.info? 9).map (fun i => (i.zero, i.size, i.bytes)) = some (some (.string ⟨#[]⟩), 1, 16) := by kernel_rfl
theorem info_cur : (Tryd.prog.info? 44).map (fun i => (i.zero, i.size, i.bytes)) = some (some (.agg #[.int .i64 0, .int .i64 0]), 2, 16) := by kernel_rfl
/-- The first k cells of ys, the others z. -/
def fillTo (ys zs : List Value) (k : Nat) : List Value := ys.take k ++ zs.drop k
theorem fill_zero (ys zs : List Value) : fillTo ys zs 0 = zs := by simp [fillTo]
theorem fill_all (ys zs : List Value) (h : zs.length ≤ ys.length) : fillTo ys zs ys.length = ys := by
  rw [fillTo, List.take_length, List.drop_eq_nil_of_le h, List.append_nil]
theorem fill_set (ys zs : List Value) (k : Nat) (h : k < ys.length) (hz : k < zs.length) : (fillTo ys zs k).set k ys[k] = fillTo ys zs (k + 1) := by
  apply List.ext_getElem?
  intro j
  unfold fillTo
  by_cases hj : k = j
  · subst hj
    rw [List.getElem?_set_self (by simp; omega)]
    rw [List.getElem?_append_left (by simp; omega), List.getElem?_take, if_pos (by omega), List.getElem?_eq_getElem h]
  · rw [List.getElem?_set_ne hj]
    by_cases hlt : j < k
    · rw [List.getElem?_append_left (by simp; omega), List.getElem?_append_left (by simp; omega), List.getElem?_take, List.getElem?_take, if_pos hlt, if_pos (by omega)]
    · rw [List.getElem?_append_right (by simp; omega), List.getElem?_append_right (by simp; omega), List.getElem?_drop, List.getElem?_drop]
      congr 1
      simp
      omega
theorem fill_len (ys zs : List Value) (k : Nat) (h : ys.length = zs.length) : (fillTo ys zs k).length = ys.length := by simp [fillTo]; omega
set_option maxHeartbeats 1000000 in
theorem law_toStrs (a : Option Addr) (n c : Nat) (l : List ByteArray) (w : World) (ha : Strs w a n l) (hn : n ≤ 1048576) :
    Calls Tryd.prog 23 #[.slice a n c] w fun e w' => e = .returned (.slice (some ⟨w.heap.size, 0, none⟩) n n) ∧ w'.ownsRow w.heap.size 9 1 (.slice (some ⟨w.heap.size, 0, none⟩) n n) n (l.map Value.string) ∧ Below w.heap.size w w' := by
  obtain ⟨i0, hi, hz0, hz1, hz2⟩ := info_parts info_str
  have HA : Hid (Strs w a n l) := ha
  have HL : Hid (l.length = n) := ha.1
  clear ha
  go_enter Tryd.func23, Tryd.ntmps23
  go_wp2_with (at_make; refine wpList_make_full _ rfl _ _ 22 rfl w.heap.size 9 i0 _ 1 Tryd.underlying22 hi hz0 hz1 _ _ _ _ n rfl rfl rfl rfl (by rw [hz2]; omega) (by unfold maxLen; omega) (Nat.le_refl _) ?_; intro w1 ho1 hg1)
  obtain ⟨zs, hzs⟩ : ∃ zs, (madeCells (Value.cells (.string ⟨#[]⟩)) (n * 1)).toList = zs := ⟨_, rfl⟩
  have ho : w1.ownsRow w.heap.size 9 1 (.slice (some ⟨w.heap.size, 0, none⟩) n n) n zs := by rw [← hzs]; exact ho1
  have HO : Hid (w1.ownsRow w.heap.size 9 1 (.slice (some ⟨w.heap.size, 0, none⟩) n n) n zs) := ho
  have HZ : Hid (zs.length = n) := by have h := ho.1; show _ = _; omega
  have HB : Hid (Below w.heap.size w w1) := (Below.refl _ _).grown hg1 (Nat.le_refl _) (fun k e => by cases e)
  clear ho1 hzs hg1 ho
  go_loopw [4] (fun i wr => ∃ k : Nat, k ≤ n ∧ i = .int .i64 k ∧ Hid (wr.ownsRow w.heap.size 9 1 (.slice (some ⟨w.heap.size, 0, none⟩) n n) n (fillTo (l.map Value.string) zs k)) ∧ Hid (Below w.heap.size w wr)) (fun i _ => n - (intOf i).toNat)
  case atStart => exact ⟨0, by omega, rfl, by rw [fill_zero]; exact HO.out, HB.out⟩
  case round =>
    obtain ⟨k, hk, rfl, ho, hw⟩ := hrel
    by_cases hlt : k < n
    · obtain ⟨b, off, V, rfl, e1, c1⟩ := strs_at HA.out hw.out hlt
      have hkl : k < l.length := by rw [HL.out]; exact hlt
      have hV : l[k] = V := by rw [List.getElem?_eq_getElem hkl] at e1; exact Option.some.inj e1
      have hcl := ho.out.cellAt k (by omega)
      obtain ⟨x, hx⟩ : ∃ x, (fillTo (l.map Value.string) zs k)[k]? = some x := ⟨_, List.getElem?_eq_getElem (by rw [fill_len _ _ _ (by simp; rw [HL.out, HZ.out])]; simpa using hkl)⟩
      rw [hx] at hcl
      have hfr := ho.out.frozenAt k
      obtain ⟨hs1, hs2⟩ := ho.out.stored k (.string V)
      have hse := fill_set (l.map Value.string) zs k (by simpa using hkl) (by rw [HZ.out]; exact hlt)
      rw [show (l.map Value.string)[k]'(by simpa using hkl) = .string V by simp [hV]] at hse
      rw [hse] at hs1
      have H1 : Hid _ := hs1
      have H2 : Hid (Below w.heap.size w (wr.setCell ⟨w.heap.size, k, none⟩ (.string V))) := hw.out.setCell (p := ⟨w.heap.size, k, none⟩) (Nat.le_refl _) _
      clear hs1 hs2 hse hV e1 hx
      go_wp2
      exact ⟨⟨k + 1, by omega, by go_num, H1.out, H2.out⟩, by simp [intOf]; omega⟩
    · obtain rfl : k = n := by omega
      have H1 : Hid (wr.ownsRow w.heap.size 9 1 (.slice (some ⟨w.heap.size, 0, none⟩) k k) k (l.map Value.string)) := by
        have h := ho.out
        rw [show fillTo (l.map Value.string) zs k = l.map Value.string from by
          have h := fill_all (l.map Value.string) zs (by simp; rw [HL.out, HZ.out]; omega)
          rw [List.length_map, HL.out] at h
          exact h] at h
        exact h
      go_wp2
      go_ret
      exact ⟨rfl, H1.out, hw.out⟩
theorem law_toCur (g a : Int) (w : World) :
    Calls Tryd.prog 37 #[.agg #[.int .i64 g, .int .i64 a]] w fun e w' => e = .returned (.agg #[.int .i64 g, .int .i64 a]) ∧ Below w.heap.size w w' := by
  go_enter Tryd.func37, Tryd.ntmps37
  go_wp2
  exact bodyPost_ret (v := .agg #[.int .i64 g, .int .i64 a]) (by simp [results, Tryd.results37, go_sem]) rfl ⟨rfl, (((Below.refl _ _).alloc (Nat.le_refl _) _).alloc (by simp) _).alloc (by simp; omega) _⟩
set_option maxHeartbeats 1000000 in
theorem law_toCurs (a : Option Addr) (n c : Nat) (l : List (Int × Int)) (w : World) (ha : Curs w a n l) (hn : n ≤ 1048576) :
    Calls Tryd.prog 24 #[.slice a n c] w fun e w' => e = .returned (.slice (some ⟨w.heap.size, 0, none⟩) n n) ∧ w'.ownsRow w.heap.size 44 2 (.slice (some ⟨w.heap.size, 0, none⟩) n n) n (curCells l) ∧ Below w.heap.size w w' := by
  obtain ⟨i0, hi, hz0, hz1, hz2⟩ := info_parts info_cur
  have HA : Hid (Curs w a n l) := ha
  have HL : Hid (l.length = n) := ha.1
  clear ha
  go_enter Tryd.func24, Tryd.ntmps24
  go_wp2_with (at_make; refine wpList_make_full _ rfl _ _ 28 rfl w.heap.size 44 i0 _ 2 Tryd.underlying28 hi hz0 hz1 _ _ _ _ n rfl rfl rfl rfl (by rw [hz2]; omega) (by unfold maxLen; omega) (Nat.le_refl _) ?_; intro w1 ho1 hg1)
  obtain ⟨zs, hzs⟩ : ∃ zs, (madeCells (Value.cells (.agg #[.int .i64 0, .int .i64 0])) (n * 2)).toList = zs := ⟨_, rfl⟩
  have ho : w1.ownsRow w.heap.size 44 2 (.slice (some ⟨w.heap.size, 0, none⟩) n n) n zs := by rw [← hzs]; exact ho1
  have HO : Hid (w1.ownsRow w.heap.size 44 2 (.slice (some ⟨w.heap.size, 0, none⟩) n n) n zs) := ho
  have HZ : Hid (zs.length = n * 2) := ho.1
  have HB : Hid (Below w.heap.size w w1) := (Below.refl _ _).grown hg1 (Nat.le_refl _) (fun k e => by cases e)
  have HL2 : Hid ((curCells l).length = n * 2) := show _ = _ by rw [curCells_length, HL.out]
  clear ho1 hzs hg1 ho
  go_loopw [4] (fun i wr => ∃ k : Nat, k ≤ n ∧ i = .int .i64 k ∧ Hid (wr.ownsRow w.heap.size 44 2 (.slice (some ⟨w.heap.size, 0, none⟩) n n) n (fillTo (curCells l) zs (k * 2))) ∧ Hid (Below w.heap.size w wr)) (fun i _ => n - (intOf i).toNat)
  case atStart => exact ⟨0, by omega, rfl, by rw [Nat.zero_mul, fill_zero]; exact HO.out, HB.out⟩
  case round =>
    obtain ⟨k, hk, rfl, ho, hw⟩ := hrel
    by_cases hlt : k < n
    · have hkl : k < l.length := by rw [HL.out]; exact hlt
      obtain ⟨b, off, rfl, g1, a1⟩ := (curs_below HA.out hw.out).2 k hkl
      have hcc := curCells_at l k hkl
      obtain ⟨G, A, hGA⟩ : ∃ G A, l[k] = (G, A) := ⟨_, _, rfl⟩
      rw [hGA] at g1 a1 hcc
      have hi0 : k * 2 < (curCells l).length := by rw [HL2.out]; omega
      have hi1 : k * 2 + 1 < (curCells l).length := by rw [HL2.out]; omega
      have he0 : (curCells l)[k * 2] = .int .i64 G := by have h := hcc.1; rw [List.getElem?_eq_getElem hi0] at h; exact Option.some.inj h
      have he1 : (curCells l)[k * 2 + 1] = .int .i64 A := by have h := hcc.2; rw [List.getElem?_eq_getElem hi1] at h; exact Option.some.inj h
      have hcl := ho.out.cellAt (k * 2) (by omega)
      have hcm := ho.out.cellAt (k * 2 + 1) (by omega)
      have hfl := fill_len (curCells l) zs (k * 2) (by rw [HL2.out, HZ.out])
      obtain ⟨x, hx⟩ : ∃ x, (fillTo (curCells l) zs (k * 2))[k * 2]? = some x := ⟨_, List.getElem?_eq_getElem (by rw [hfl]; exact hi0)⟩
      obtain ⟨y, hy⟩ : ∃ y, (fillTo (curCells l) zs (k * 2))[k * 2 + 1]? = some y := ⟨_, List.getElem?_eq_getElem (by rw [hfl]; exact hi1)⟩
      rw [hx] at hcl
      rw [hy] at hcm
      have hfr := ho.out.frozenAt (k * 2)
      have hfs := ho.out.frozenAt (k * 2 + 1)
      have hlt2 := ho.out.lt w.heap.size rfl
      have HO2 : Hid (∀ w2, Below wr.heap.size wr w2 → (((w2.setCell ⟨w.heap.size, k * 2, none⟩ (.int .i64 G)).setCell ⟨w.heap.size, k * 2 + 1, none⟩ (.int .i64 A)).ownsRow w.heap.size 44 2 (.slice (some ⟨w.heap.size, 0, none⟩) n n) n (fillTo (curCells l) zs ((k + 1) * 2))) ∧ Below w.heap.size w ((w2.setCell ⟨w.heap.size, k * 2, none⟩ (.int .i64 G)).setCell ⟨w.heap.size, k * 2 + 1, none⟩ (.int .i64 A))) := fun w2 hb2 => by
        have h2 : w2.ownsRow w.heap.size 44 2 (.slice (some ⟨w.heap.size, 0, none⟩) n n) n (fillTo (curCells l) zs (k * 2)) := ho.out.kept (below_grown hb2) (.inr (by simp [Value.ownBlock]))
        have hs1 := (h2.stored (k * 2) (.int .i64 G)).1
        have hse := fill_set (curCells l) zs (k * 2) hi0 (by rw [HZ.out]; omega)
        rw [he0] at hse
        rw [hse] at hs1
        have hs2 := (hs1.stored (k * 2 + 1) (.int .i64 A)).1
        have hsf := fill_set (curCells l) zs (k * 2 + 1) hi1 (by rw [HZ.out]; omega)
        rw [he1] at hsf
        rw [hsf, show k * 2 + 1 + 1 = (k + 1) * 2 by omega] at hs2
        exact ⟨hs2, ((below_tr hw.out hb2).setCell (p := ⟨w.heap.size, k * 2, none⟩) (Nat.le_refl _) _).setCell (p := ⟨w.heap.size, k * 2 + 1, none⟩) (Nat.le_refl _) _⟩
      clear hx hy hcc hGA he0 he1 hfl
      go_wp2_with fail
      refine (law_toCur G A _).mono ?_
      rintro e w2 ⟨rfl, hb2⟩
      have d0 := (hb2.cell (p := ⟨w.heap.size, k * 2, none⟩) hlt2.2).trans hcl
      have d1 := (hb2.cell (p := ⟨w.heap.size, k * 2 + 1, none⟩) hlt2.2).trans hcm
      have f0 := (hb2.frozen (p := ⟨w.heap.size, k * 2, none⟩) hlt2.2).trans hfr
      have f1 := (hb2.frozen (p := ⟨w.heap.size, k * 2 + 1, none⟩) hlt2.2).trans hfs
      obtain ⟨h1, h2⟩ := HO2.out w2 hb2
      have H1 : Hid _ := h1
      have H2 : Hid _ := h2
      clear hb2 h1 h2
      go_wp2
      exact ⟨⟨k + 1, by omega, by go_num, H1.out, H2.out⟩, by simp [intOf]; omega⟩
    · obtain rfl : k = n := by omega
      have H1 : Hid (wr.ownsRow w.heap.size 44 2 (.slice (some ⟨w.heap.size, 0, none⟩) k k) k (curCells l)) := by
        have h := ho.out
        rw [show fillTo (curCells l) zs (k * 2) = curCells l from by
          have h := fill_all (curCells l) zs (by rw [HL2.out, HZ.out]; omega)
          rw [HL2.out] at h
          exact h] at h
        exact h
      go_wp2
      go_ret
      exact ⟨rfl, H1.out, hw.out⟩
end Go.Proofs.YtblkbpgnhkjaaaaDoor
