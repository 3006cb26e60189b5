import Derived.Test.YtbbaghlmialaoaaGreatDoorLawRing2
/- The laws' own helpers on rings: sizes, and copies in memory of their own. -/
namespace Go.Proofs.YtbbaghlmialaoaaGreatDoor
open Go.RowKit

def strSum (l : List ByteArray) : Nat := (l.map ByteArray.size).sum
theorem strSum_snoc (l : List ByteArray) (k : Nat) (h : k < l.length) : strSum (l.take (k + 1)) = strSum (l.take k) + l[k].size := by
  unfold strSum
  rw [List.take_succ_eq_append_getElem h, List.map_append, List.sum_append]
  simp
theorem strSum_le (l : List ByteArray) (k : Nat) : strSum (l.take k) ≤ strSum l := by
  have h : strSum l = strSum (l.take k) + strSum (l.drop k) := by
    unfold strSum
    rw [← List.sum_append, ← List.map_append, List.take_append_drop]
  omega
theorem strSum_mem (l : List ByteArray) (s : ByteArray) (h : s ∈ l) : s.size ≤ strSum l := by
  induction l with
  | nil => simp at h
  | cons x r ih =>
    rcases List.mem_cons.1 h with rfl | h
    · simp [strSum]
    · have := ih h
      simp [strSum] at this ⊢
      omega
/-- What a list of texts leaves of L. -/
def szLeft (L n s : Nat) : Int := if n + s ≤ L then ((L - (n + s) : Nat) : Int) else -1
set_option maxHeartbeats 1000000 in
theorem law_szStrs (a : Option Addr) (n c : Nat) (l : List ByteArray) (L : Nat) (w : World) (ha : Strs w a n l) (hn : n ≤ maxLen) (hs : ∀ s ∈ l, s.size ≤ maxLen) (hL : L ≤ 1048576) :
    Calls Tryz.prog 150 #[.slice a n c, .int .i64 L] w fun e w' => e = .returned (.int .i64 (szLeft L n (strSum l))) ∧ w' = w := by
  have hl : l.length = n := ha.1
  unfold maxLen at hn
  have HA : Hid (Strs w a n l) := ha
  have HS : Hid (∀ s ∈ l, s.size ≤ maxLen) := hs
  have HL : Hid _ := hl
  clear ha hs hl
  by_cases h0 : L < n
  · have hE : Hid (szLeft L n (strSum l) = -1) := show _ = _ by rw [szLeft, if_neg (by omega)]
    go_enter Tryz.func150, Tryz.ntmps150
    go_wp2
    go_ret
    exact ⟨ret_int hE.out.symm, rfl⟩
  · go_enter Tryz.func150, Tryz.ntmps150
    go_wp2
    go_loop [1, 5] (fun q i => ∃ (k x : Nat), k ≤ n ∧ i = .int .i64 k ∧ q = .int .i64 x ∧ x ≤ 1048576 ∧ Hid (x + n + strSum (l.take k) = L)) (fun _ i => n - (intOf i).toNat)
    case atStart => exact ⟨0, L - n, by omega, rfl, by go_num, by omega, show _ = _ by simp [strSum]; omega⟩
    case round =>
      obtain ⟨k, x, hk, rfl, rfl, hx, hq⟩ := hrel
      by_cases hlt : k < n
      · obtain ⟨b, off, V, rfl, e1, c1⟩ := strs_at HA.out (Below.refl _ _) hlt
        have hkl : k < l.length := by rw [HL.out]; exact hlt
        have hV : l[k] = V := by rw [List.getElem?_eq_getElem hkl] at e1; exact Option.some.inj e1
        have hm : V.size ≤ maxLen := HS.out V (by rw [← hV]; exact List.getElem_mem hkl)
        unfold maxLen at hm
        have hsn : strSum (l.take (k + 1)) = strSum (l.take k) + V.size := by rw [strSum_snoc l k hkl, hV]
        have HN : Hid _ := hsn
        clear e1 hV hsn
        by_cases hle : V.size ≤ x
        · have hnx : Hid ((x - V.size) + n + strSum (l.take (k + 1)) = L) := show _ = _ by rw [HN.out]; have := hq.out; omega
          clear HN hq
          go_wp2
          all_goals first | exact ⟨⟨k + 1, x - V.size, by omega, by go_num, by go_num, by omega, hnx.out⟩, by simp [intOf]; omega⟩ | (go_round; all_goals first | exact ⟨k + 1, x - V.size, by omega, by go_num, by go_num, by omega, hnx.out⟩ | (simp [intOf]; omega))
        · have hE : Hid (szLeft L n (strSum l) = -1) := show _ = _ by
            have h1 := strSum_le l (k + 1)
            rw [HN.out] at h1
            have h2 := hq.out
            rw [szLeft, if_neg (by omega)]
          clear HN hq
          go_wp2
          go_ret
          exact ⟨ret_int hE.out.symm, rfl⟩
      · have hE : Hid (szLeft L n (strSum l) = x) := show _ = _ by
          have h2 := hq.out
          rw [List.take_of_length_le (by rw [HL.out]; omega)] at h2
          rw [szLeft, if_pos (by omega)]
          omega
        clear hq
        go_wp2
        go_ret
        exact ⟨ret_int hE.out.symm, rfl⟩
set_option maxHeartbeats 1000000 in
theorem law_szCurs (a : Option Addr) (n c : Nat) (L : Nat) (w : World) (hn : n ≤ maxLen) (hL : L ≤ 1048576) :
    Calls Tryz.prog 151 #[.slice a n c, .int .i64 L] w fun e w' => e = .returned (.int .i64 (szLeft L n 0)) ∧ w' = w := by
  unfold maxLen at hn
  by_cases h0 : L < n
  · have hE : Hid (szLeft L n 0 = -1) := show _ = _ by rw [szLeft, if_neg (by omega)]
    go_enter Tryz.func151, Tryz.ntmps151
    go_wp2
    go_ret
    exact ⟨ret_int hE.out.symm, rfl⟩
  · have hE : Hid (szLeft L n 0 = (L : Int) - (n : Int)) := show _ = _ by rw [szLeft, if_pos (by omega)]; omega
    go_enter Tryz.func151, Tryz.ntmps151
    go_wp2
    go_ret
    exact ⟨ret_int hE.out.symm, rfl⟩
/-- What a ring leaves of L. -/
def ringLeft (L n s m : Nat) : Int := if n + s + m ≤ L then ((L - (n + s + m) : Nat) : Int) else -1
set_option maxHeartbeats 1000000 in
theorem law_szRing (cap first : Int) (ra : Option Addr) (rl rc : Nat) (ca : Option Addr) (cl cc : Nat) (recs : List ByteArray) (w : World) (hr : Strs w ra rl recs) (hn : rl ≤ maxLen) (hs : ∀ s ∈ recs, s.size ≤ maxLen) (hm : cl ≤ maxLen) :
    Calls Tryz.prog 118 #[ringV cap first ra rl rc ca cl cc, .int .i64 1048576] w fun e w' => e = .returned (.int .i64 (ringLeft 1048576 rl (strSum recs) cl)) ∧ Below w.heap.size w w' := by
  have HR : Hid (∀ o, Strs (w.alloc o) ra rl recs) := fun o => strs_below hr ((Below.refl _ _).alloc (Nat.le_refl _) _)
  have HS : Hid (∀ s ∈ recs, s.size ≤ maxLen) := hs
  clear hr hs
  by_cases h0 : rl + strSum recs ≤ 1048576
  · have HQ : Hid _ := fun o => law_szStrs ra rl rc recs 1048576 (w.alloc o) (HR.out o) hn HS.out (by omega)
    rw [show szLeft 1048576 rl (strSum recs) = ((1048576 - (rl + strSum recs) : Nat) : Int) by rw [szLeft, if_pos h0]] at HQ
    obtain ⟨x, hx⟩ : ∃ x, 1048576 - (rl + strSum recs) = x := ⟨_, rfl⟩
    rw [hx] at HQ
    have hxm : x ≤ 1048576 := by omega
    have hE : Hid (ringLeft 1048576 rl (strSum recs) cl = szLeft x cl 0) := show _ = _ by
      rw [ringLeft, szLeft]
      by_cases h1 : cl ≤ x
      · rw [if_pos (by omega), if_pos (by omega)]; omega
      · rw [if_neg (by omega), if_neg (by omega)]
    have hX : Hid _ := hx
    clear hx h0
    go_enter Tryz.func118, Tryz.ntmps118
    go_wp2_with fail
    refine (HQ.out _).mono ?_
    rintro e w1 ⟨rfl, rfl⟩
    go_wp2_with fail
    refine (law_szCurs ca cl cc x _ hm hxm).mono ?_
    rintro e w1 ⟨rfl, rfl⟩
    by_cases h1 : cl ≤ x
    · rw [show szLeft x cl 0 = ((x - cl : Nat) : Int) by rw [szLeft, if_pos (by omega)]; rfl] at hE ⊢
      go_wp2
      go_ret
      exact ⟨ret_int hE.out.symm, (Below.refl _ _).alloc (Nat.le_refl _) _⟩
    · rw [show szLeft x cl 0 = -1 by rw [szLeft, if_neg (by omega)]] at hE ⊢
      go_wp2
      go_ret
      exact ⟨ret_int hE.out.symm, (Below.refl _ _).alloc (Nat.le_refl _) _⟩
  · have HQ : Hid _ := fun o => law_szStrs ra rl rc recs 1048576 (w.alloc o) (HR.out o) hn HS.out (by omega)
    rw [show szLeft 1048576 rl (strSum recs) = -1 by rw [szLeft, if_neg h0]] at HQ
    have hE : Hid (ringLeft 1048576 rl (strSum recs) cl = -1) := show _ = _ by rw [ringLeft, if_neg (by omega)]
    clear h0
    go_enter Tryz.func118, Tryz.ntmps118
    go_wp2_with fail
    refine (HQ.out _).mono ?_
    rintro e w1 ⟨rfl, rfl⟩
    go_wp2
    go_ret
    exact ⟨ret_int hE.out.symm, (Below.refl _ _).alloc (Nat.le_refl _) _⟩
end Go.Proofs.YtbbaghlmialaoaaGreatDoor
/- The laws' copies of rings, in memory of their own. -/
namespace Go.Proofs.YtbbaghlmialaoaaGreatDoor
open Go.RowKit

theorem info_str : (Tryz.prog.info? 9).map (fun i => (i.zero, i.size, i.bytes)) = some (some (.string ⟨#[]⟩), 1, 16) := by kernel_rfl
theorem info_cur : (Tryz.prog.info? 47).map (fun i => (i.zero, i.size, i.bytes)) = some (some (.agg #[.int .i64 0, .int .i64 0]), 2, 16) := by kernel_rfl
/-- The first k cells of ys, the others z. -/
def fillTo (ys zs : List Value) (k : Nat) : List Value := ys.take k ++ zs.drop k
theorem fill_zero (ys zs : List Value) : fillTo ys zs 0 = zs := by simp [fillTo]
theorem fill_all (ys zs : List Value) (h : zs.length ≤ ys.length) : fillTo ys zs ys.length = ys := by
  rw [fillTo, List.take_length, List.drop_eq_nil_of_le h, List.append_nil]
theorem fill_set (ys zs : List Value) (k : Nat) (h : k < ys.length) (hz : k < zs.length) : (fillTo ys zs k).set k ys[k] = fillTo ys zs (k + 1) := by
  apply List.ext_getElem?
  intro j
  unfold fillTo
  by_cases hj : k = j
  · subst hj
    rw [List.getElem?_set_self (by simp; omega)]
    rw [List.getElem?_append_left (by simp; omega), List.getElem?_take, if_pos (by omega), List.getElem?_eq_getElem h]
  · rw [List.getElem?_set_ne hj]
    by_cases hlt : j < k
    · rw [List.getElem?_append_left (by simp; omega), List.getElem?_append_left (by simp; omega), List.getElem?_take, List.getElem?_take, if_pos hlt, if_pos (by omega)]
    · rw [List.getElem?_append_right (by simp; omega), List.getElem?_append_right (by simp; omega), List.getElem?_drop, List.getElem?_drop]
      congr 1
      simp
      omega
theorem fill_len (ys zs : List Value) (k : Nat) (h : ys.length = zs.length) : (fillTo ys zs k).length = ys.length := by simp [fillTo]; omega
set_option maxHeartbeats 1000000 in
theorem law_toStrs (a : Option Addr) (n c : Nat) (l : List ByteArray) (w : World) (ha : Strs w a n l) (hn : n ≤ 1048576) :
    Calls Tryz.prog 153 #[.slice a n c] w fun e w' => e = .returned (.slice (some ⟨w.heap.size, 0, none⟩) n n) ∧ w'.ownsRow w.heap.size 9 1 (.slice (some ⟨w.heap.size, 0, none⟩) n n) n (l.map Value.string) ∧ Below w.heap.size w w' := by
  obtain ⟨i0, hi, hz0, hz1, hz2⟩ := info_parts info_str
  have HA : Hid (Strs w a n l) := ha
  have HL : Hid (l.length = n) := ha.1
  clear ha
  go_enter Tryz.func153, Tryz.ntmps153
  go_wp2_with (at_make; refine wpList_make_full _ rfl _ _ 23 rfl w.heap.size 9 i0 _ 1 Tryz.underlying23 hi hz0 hz1 _ _ _ _ n rfl rfl rfl rfl (by rw [hz2]; omega) (by unfold maxLen; omega) (Nat.le_refl _) ?_; intro w1 ho1 hg1)
  obtain ⟨zs, hzs⟩ : ∃ zs, (madeCells (Value.cells (.string ⟨#[]⟩)) (n * 1)).toList = zs := ⟨_, rfl⟩
  have ho : w1.ownsRow w.heap.size 9 1 (.slice (some ⟨w.heap.size, 0, none⟩) n n) n zs := by rw [← hzs]; exact ho1
  have HO : Hid (w1.ownsRow w.heap.size 9 1 (.slice (some ⟨w.heap.size, 0, none⟩) n n) n zs) := ho
  have HZ : Hid (zs.length = n) := by have h := ho.1; show _ = _; omega
  have HB : Hid (Below w.heap.size w w1) := (Below.refl _ _).grown hg1 (Nat.le_refl _) (fun k e => by cases e)
  clear ho1 hzs hg1 ho
  go_loopw [4] (fun i wr => ∃ k : Nat, k ≤ n ∧ i = .int .i64 k ∧ Hid (wr.ownsRow w.heap.size 9 1 (.slice (some ⟨w.heap.size, 0, none⟩) n n) n (fillTo (l.map Value.string) zs k)) ∧ Hid (Below w.heap.size w wr)) (fun i _ => n - (intOf i).toNat)
  case atStart => exact ⟨0, by omega, rfl, by rw [fill_zero]; exact HO.out, HB.out⟩
  case round =>
    obtain ⟨k, hk, rfl, ho, hw⟩ := hrel
    by_cases hlt : k < n
    · obtain ⟨b, off, V, rfl, e1, c1⟩ := strs_at HA.out hw.out hlt
      have hkl : k < l.length := by rw [HL.out]; exact hlt
      have hV : l[k] = V := by rw [List.getElem?_eq_getElem hkl] at e1; exact Option.some.inj e1
      have hcl := ho.out.cellAt k (by omega)
      obtain ⟨x, hx⟩ : ∃ x, (fillTo (l.map Value.string) zs k)[k]? = some x := ⟨_, List.getElem?_eq_getElem (by rw [fill_len _ _ _ (by simp; rw [HL.out, HZ.out])]; simpa using hkl)⟩
      rw [hx] at hcl
      have hfr := ho.out.frozenAt k
      obtain ⟨hs1, hs2⟩ := ho.out.stored k (.string V)
      have hse := fill_set (l.map Value.string) zs k (by simpa using hkl) (by rw [HZ.out]; exact hlt)
      rw [show (l.map Value.string)[k]'(by simpa using hkl) = .string V by simp [hV]] at hse
      rw [hse] at hs1
      have H1 : Hid _ := hs1
      have H2 : Hid (Below w.heap.size w (wr.setCell ⟨w.heap.size, k, none⟩ (.string V))) := hw.out.setCell (p := ⟨w.heap.size, k, none⟩) (Nat.le_refl _) _
      clear hs1 hs2 hse hV e1 hx
      go_wp2
      exact ⟨⟨k + 1, by omega, by go_num, H1.out, H2.out⟩, by simp [intOf]; omega⟩
    · obtain rfl : k = n := by omega
      have H1 : Hid (wr.ownsRow w.heap.size 9 1 (.slice (some ⟨w.heap.size, 0, none⟩) k k) k (l.map Value.string)) := by
        have h := ho.out
        rw [show fillTo (l.map Value.string) zs k = l.map Value.string from by
          have h := fill_all (l.map Value.string) zs (by simp; rw [HL.out, HZ.out]; omega)
          rw [List.length_map, HL.out] at h
          exact h] at h
        exact h
      go_wp2
      go_ret
      exact ⟨rfl, H1.out, hw.out⟩
theorem law_toCur (g a : Int) (w : World) :
    Calls Tryz.prog 175 #[.agg #[.int .i64 g, .int .i64 a]] w fun e w' => e = .returned (.agg #[.int .i64 g, .int .i64 a]) ∧ Below w.heap.size w w' := by
  go_enter Tryz.func175, Tryz.ntmps175
  go_wp2
  exact bodyPost_ret (v := .agg #[.int .i64 g, .int .i64 a]) (by simp [results, Tryz.results175, go_sem]) rfl ⟨rfl, (((Below.refl _ _).alloc (Nat.le_refl _) _).alloc (by simp) _).alloc (by simp; omega) _⟩
set_option maxHeartbeats 1000000 in
theorem law_toCurs (a : Option Addr) (n c : Nat) (l : List (Int × Int)) (w : World) (ha : Curs w a n l) (hn : n ≤ 1048576) :
    Calls Tryz.prog 154 #[.slice a n c] w fun e w' => e = .returned (.slice (some ⟨w.heap.size, 0, none⟩) n n) ∧ w'.ownsRow w.heap.size 47 2 (.slice (some ⟨w.heap.size, 0, none⟩) n n) n (curCells l) ∧ Below w.heap.size w w' := by
  obtain ⟨i0, hi, hz0, hz1, hz2⟩ := info_parts info_cur
  have HA : Hid (Curs w a n l) := ha
  have HL : Hid (l.length = n) := ha.1
  clear ha
  go_enter Tryz.func154, Tryz.ntmps154
  go_wp2_with (at_make; refine wpList_make_full _ rfl _ _ 24 rfl w.heap.size 47 i0 _ 2 Tryz.underlying24 hi hz0 hz1 _ _ _ _ n rfl rfl rfl rfl (by rw [hz2]; omega) (by unfold maxLen; omega) (Nat.le_refl _) ?_; intro w1 ho1 hg1)
  obtain ⟨zs, hzs⟩ : ∃ zs, (madeCells (Value.cells (.agg #[.int .i64 0, .int .i64 0])) (n * 2)).toList = zs := ⟨_, rfl⟩
  have ho : w1.ownsRow w.heap.size 47 2 (.slice (some ⟨w.heap.size, 0, none⟩) n n) n zs := by rw [← hzs]; exact ho1
  have HO : Hid (w1.ownsRow w.heap.size 47 2 (.slice (some ⟨w.heap.size, 0, none⟩) n n) n zs) := ho
  have HZ : Hid (zs.length = n * 2) := ho.1
  have HB : Hid (Below w.heap.size w w1) := (Below.refl _ _).grown hg1 (Nat.le_refl _) (fun k e => by cases e)
  have HL2 : Hid ((curCells l).length = n * 2) := show _ = _ by rw [curCells_length, HL.out]
  clear ho1 hzs hg1 ho
  go_loopw [4] (fun i wr => ∃ k : Nat, k ≤ n ∧ i = .int .i64 k ∧ Hid (wr.ownsRow w.heap.size 47 2 (.slice (some ⟨w.heap.size, 0, none⟩) n n) n (fillTo (curCells l) zs (k * 2))) ∧ Hid (Below w.heap.size w wr)) (fun i _ => n - (intOf i).toNat)
  case atStart => exact ⟨0, by omega, rfl, by rw [Nat.zero_mul, fill_zero]; exact HO.out, HB.out⟩
  case round =>
    obtain ⟨k, hk, rfl, ho, hw⟩ := hrel
    by_cases hlt : k < n
    · have hkl : k < l.length := by rw [HL.out]; exact hlt
      obtain ⟨b, off, rfl, g1, a1⟩ := (curs_below HA.out hw.out).2 k hkl
      have hcc := curCells_at l k hkl
      obtain ⟨G, A, hGA⟩ : ∃ G A, l[k] = (G, A) := ⟨_, _, rfl⟩
      rw [hGA] at g1 a1 hcc
      have hi0 : k * 2 < (curCells l).length := by rw [HL2.out]; omega
      have hi1 : k * 2 + 1 < (curCells l).length := by rw [HL2.out]; omega
      have he0 : (curCells l)[k * 2] = .int .i64 G := by have h := hcc.1; rw [List.getElem?_eq_getElem hi0] at h; exact Option.some.inj h
      have he1 : (curCells l)[k * 2 + 1] = .int .i64 A := by have h := hcc.2; rw [List.getElem?_eq_getElem hi1] at h; exact Option.some.inj h
      have hcl := ho.out.cellAt (k * 2) (by omega)
      have hcm := ho.out.cellAt (k * 2 + 1) (by omega)
      have hfl := fill_len (curCells l) zs (k * 2) (by rw [HL2.out, HZ.out])
      obtain ⟨x, hx⟩ : ∃ x, (fillTo (curCells l) zs (k * 2))[k * 2]? = some x := ⟨_, List.getElem?_eq_getElem (by rw [hfl]; exact hi0)⟩
      obtain ⟨y, hy⟩ : ∃ y, (fillTo (curCells l) zs (k * 2))[k * 2 + 1]? = some y := ⟨_, List.getElem?_eq_getElem (by rw [hfl]; exact hi1)⟩
      rw [hx] at hcl
      rw [hy] at hcm
      have hfr := ho.out.frozenAt (k * 2)
      have hfs := ho.out.frozenAt (k * 2 + 1)
      have hlt2 := ho.out.lt w.heap.size rfl
      have HO2 : Hid (∀ w2, Below wr.heap.size wr w2 → (((w2.setCell ⟨w.heap.size, k * 2, none⟩ (.int .i64 G)).setCell ⟨w.heap.size, k * 2 + 1, none⟩ (.int .i64 A)).ownsRow w.heap.size 47 2 (.slice (some ⟨w.heap.size, 0, none⟩) n n) n (fillTo (curCells l) zs ((k + 1) * 2))) ∧ Below w.heap.size w ((w2.setCell ⟨w.heap.size, k * 2, none⟩ (.int .i64 G)).setCell ⟨w.heap.size, k * 2 + 1, none⟩ (.int .i64 A))) := fun w2 hb2 => by
        have h2 : w2.ownsRow w.heap.size 47 2 (.slice (some ⟨w.heap.size, 0, none⟩) n n) n (fillTo (curCells l) zs (k * 2)) := ho.out.kept (below_grown hb2) (.inr (by simp [Value.ownBlock]))
        have hs1 := (h2.stored (k * 2) (.int .i64 G)).1
        have hse := fill_set (curCells l) zs (k * 2) hi0 (by rw [HZ.out]; omega)
        rw [he0] at hse
        rw [hse] at hs1
        have hs2 := (hs1.stored (k * 2 + 1) (.int .i64 A)).1
        have hsf := fill_set (curCells l) zs (k * 2 + 1) hi1 (by rw [HZ.out]; omega)
        rw [he1] at hsf
        rw [hsf, show k * 2 + 1 + 1 = (k + 1) * 2 by omega] at hs2
        exact ⟨hs2, ((below_tr hw.out hb2).setCell (p := ⟨w.heap.size, k * 2, none⟩) (Nat.le_refl _) _).setCell (p := ⟨w.heap.size, k * 2 + 1, none⟩) (Nat.le_refl _) _⟩
      clear hx hy hcc hGA he0 he1 hfl
      go_wp2_with fail
      refine (law_toCur G A _).mono ?_
      rintro e w2 ⟨rfl, hb2⟩
      have d0 := (hb2.cell (p := ⟨w.heap.size, k * 2, none⟩) hlt2.2).trans hcl
      have d1 := (hb2.cell (p := ⟨w.heap.size, k * 2 + 1, none⟩) hlt2.2).trans hcm
      have f0 := (hb2.frozen (p := ⟨w.heap.size, k * 2, none⟩) hlt2.2).trans hfr
      have f1 := (hb2.frozen (p := ⟨w.heap.size, k * 2 + 1, none⟩) hlt2.2).trans hfs
      obtain ⟨h1, h2⟩ := HO2.out w2 hb2
      have H1 : Hid _ := h1
      have H2 : Hid _ := h2
      clear hb2 h1 h2
      go_wp2
      exact ⟨⟨k + 1, by omega, by go_num, H1.out, H2.out⟩, by simp [intOf]; omega⟩
    · obtain rfl : k = n := by omega
      have H1 : Hid (wr.ownsRow w.heap.size 47 2 (.slice (some ⟨w.heap.size, 0, none⟩) k k) k (curCells l)) := by
        have h := ho.out
        rw [show fillTo (curCells l) zs (k * 2) = curCells l from by
          have h := fill_all (curCells l) zs (by rw [HL2.out, HZ.out]; omega)
          rw [HL2.out] at h
          exact h] at h
        exact h
      go_wp2
      go_ret
      exact ⟨rfl, H1.out, hw.out⟩
end Go.Proofs.YtbbaghlmialaoaaGreatDoor
