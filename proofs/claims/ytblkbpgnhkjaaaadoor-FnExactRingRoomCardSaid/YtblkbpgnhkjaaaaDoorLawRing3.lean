/- The laws' own helpers on rings: sizes, and copies in memory of their own. -/
import Derived.Test.YtblkbpgnhkjaaaaDoorLawRing2
namespace Go.Proofs.YtblkbpgnhkjaaaaDoor
open Go.RowKit

def strSum (l : List ByteArray) : Nat := (l.map ByteArray.size).sum
theorem strSum_snoc (l : List ByteArray) (k : Nat) (h : k < l.length) : strSum (l.take (k + 1)) = strSum (l.take k) + l[k].size := by
  unfold strSum
  rw [List.take_succ_eq_append_getElem h, List.map_append, List.sum_append]
  simp
theorem strSum_le (l : List ByteArray) (k : Nat) : strSum (l.take k) ≤ strSum l := by
  have h : strSum l = strSum (l.take k) + strSum (l.drop k) := by
    unfold strSum
    rw [← List.sum_append, ← List.map_append, List.take_append_drop]
  omega
theorem strSum_mem (l : List ByteArray) (s : ByteArray) (h : s ∈ l) : s.size ≤ strSum l := by
  induction l with
  | nil => simp at h
  | cons x r ih =>
    rcases List.mem_cons.1 h with rfl | h
    · simp [strSum]
    · have := ih h
      simp [strSum] at this ⊢
      omega
/-- What a list of texts leaves of L. -/
def szLeft (L n s : Nat) : Int := if n + s ≤ L then ((L - (n + s) : Nat) : Int) else -1
set_option maxHeartbeats 1000000 in
theorem law_szStrs (a : Option Addr) (n c : Nat) (l : List ByteArray) (L : Nat) (w : World) (ha : Strs w a n l) (hn : n ≤ maxLen) (hs : ∀ s ∈ l, s.size ≤ maxLen) (hL : L ≤ 1048576) :
    Calls Tryd.prog 15 #[.slice a n c, .int .i64 L] w fun e w' => e = .returned (.int .i64 (szLeft L n (strSum l))) ∧ w' = w := by
  have hl : l.length = n := ha.1
  unfold maxLen at hn
  have HA : Hid (Strs w a n l) := ha
  have HS : Hid (∀ s ∈ l, s.size ≤ maxLen) := hs
  have HL : Hid _ := hl
  clear ha hs hl
  by_cases h0 : L < n
  · have hE : Hid (szLeft L n (strSum l) = -1) := show _ = _ by rw [szLeft, if_neg (by omega)]
    go_enter Tryd.func15, Tryd.ntmps15
    go_wp2
    go_ret
    exact ⟨ret_int hE.out.symm, rfl⟩
  · go_enter Tryd.func15, Tryd.ntmps15
    go_wp2
    go_loop [1, 5] (fun q i => ∃ (k x : Nat), k ≤ n ∧ i = .int .i64 k ∧ q = .int .i64 x ∧ x ≤ 1048576 ∧ Hid (x + n + strSum (l.take k) = L)) (fun _ i => n - (intOf i).toNat)
    case atStart => exact ⟨0, L - n, by omega, rfl, by go_num, by omega, show _ = _ by simp [strSum]; omega⟩
    case round =>
      obtain ⟨k, x, hk, rfl, rfl, hx, hq⟩ := hrel
      by_cases hlt : k < n
      · obtain ⟨b, off, V, rfl, e1, c1⟩ := strs_at HA.out (Below.refl _ _) hlt
        have hkl : k < l.length := by rw [HL.out]; exact hlt
        have hV : l[k] = V := by rw [List.getElem?_eq_getElem hkl] at e1; exact Option.some.inj e1
        have hm : V.size ≤ maxLen := HS.out V (by rw [← hV]; exact List.getElem_mem hkl)
        unfold maxLen at hm
        have hsn : strSum (l.take (k + 1)) = strSum (l.take k) + V.size := by rw [strSum_snoc l k hkl, hV]
        have HN : Hid _ := hsn
        clear e1 hV hsn
        by_cases hle : V.size ≤ x
        · have hnx : Hid ((x - V.size) + n + strSum (l.take (k + 1)) = L) := show _ = _ by rw [HN.out]; have := hq.out; omega
          clear HN hq
          go_wp2
          all_goals first | exact ⟨⟨k + 1, x - V.size, by omega, by go_num, by go_num, by omega, hnx.out⟩, by simp [intOf]; omega⟩ | (go_round; all_goals first | exact ⟨k + 1, x - V.size, by omega, by go_num, by go_num, by omega, hnx.out⟩ | (simp [intOf]; omega))
        · have hE : Hid (szLeft L n (strSum l) = -1) := show _ = _ by
            have h1 := strSum_le l (k + 1)
            rw [HN.out] at h1
            have h2 := hq.out
            rw [szLeft, if_neg (by omega)]
          clear HN hq
          go_wp2
          go_ret
          exact ⟨ret_int hE.out.symm, rfl⟩
      · have hE : Hid (szLeft L n (strSum l) = x) := show _ = _ by
          have h2 := hq.out
          rw [List.take_of_length_le (by rw [HL.out]; omega)] at h2
          rw [szLeft, if_pos (by omega)]
          omega
        clear hq
        go_wp2
        go_ret
        exact ⟨ret_int hE.out.symm, rfl⟩
set_option maxHeartbeats 1000000 in
theorem law_szCurs (a : Option Addr) (n c : Nat) (L : Nat) (w : World) (hn : n ≤ maxLen) (hL : L ≤ 1048576) :
    Calls Tryd.prog 16 #[.slice a n c, .int .i64 L] w fun e w' => e = .returned (.int .i64 (szLeft L n 0)) ∧ w' = w := by
  unfold maxLen at hn
  by_cases h0 : L < n
  · have hE : Hid (szLeft L n 0 = -1) := show _ = _ by rw [szLeft, if_neg (by omega)]
    go_enter Tryd.func16, Tryd.ntmps16
    go_wp2
    go_ret
    exact ⟨ret_int hE.out.symm, rfl⟩
  · have hE : Hid (szLeft L n 0 = (L : Int) - (n : Int)) := show _ = _ by rw [szLeft, if_pos (by omega)]; omega
    go_enter Tryd.func16, Tryd.ntmps16
    go_wp2
    go_ret
    exact ⟨ret_int hE.out.symm, rfl⟩
/-- What a ring leaves of L. -/
def ringLeft (L n s m : Nat) : Int := if n + s + m ≤ L then ((L - (n + s + m) : Nat) : Int) else -1
set_option maxHeartbeats 1000000 in
theorem law_szRing (cap first : Int) (ra : Option Addr) (rl rc : Nat) (ca : Option Addr) (cl cc : Nat) (recs : List ByteArray) (w : World) (hr : Strs w ra rl recs) (hn : rl ≤ maxLen) (hs : ∀ s ∈ recs, s.size ≤ maxLen) (hm : cl ≤ maxLen) :
    Calls Tryd.prog 6 #[ringV cap first ra rl rc ca cl cc, .int .i64 1048576] w fun e w' => e = .returned (.int .i64 (ringLeft 1048576 rl (strSum recs) cl)) ∧ Below w.heap.size w w' := by
  have HR : Hid (∀ o, Strs (w.alloc o) ra rl recs) := fun o => strs_below hr ((Below.refl _ _).alloc (Nat.le_refl _) _)
  have HS : Hid (∀ s ∈ recs, s.size ≤ maxLen) := hs
  clear hr hs
  by_cases h0 : rl + strSum recs ≤ 1048576
  · have HQ : Hid _ := fun o => law_szStrs ra rl rc recs 1048576 (w.alloc o) (HR.out o) hn HS.out (by omega)
    rw [show szLeft 1048576 rl (strSum recs) = ((1048576 - (rl + strSum recs) : Nat) : Int) by rw [szLeft, if_pos h0]] at HQ
    obtain ⟨x, hx⟩ : ∃ x, 1048576 - (rl + strSum recs) = x := ⟨_, rfl⟩
    rw [hx] at HQ
    have hxm : x ≤ 1048576 := by omega
    have hE : Hid (ringLeft 1048576 rl (strSum recs) cl = szLeft x cl 0) := show _ = _ by
      rw [ringLeft, szLeft]
      by_cases h1 : cl ≤ x
      · rw [if_pos (by omega), if_pos (by omega)]; omega
      · rw [if_neg (by omega), if_neg (by omega)]
    have hX : Hid _ := hx
    clear hx h0
    go_enter Tryd.func6, Tryd.ntmps6
    go_wp2_with fail
    refine (HQ.out _).mono ?_
    rintro e w1 ⟨rfl, rfl⟩
    go_wp2_with fail
    refine (law_szCurs ca cl cc x _ hm hxm).mono ?_
    rintro e w1 ⟨rfl, rfl⟩
    by_cases h1 : cl ≤ x
    · rw [show szLeft x cl 0 = ((x - cl : Nat) : Int) by rw [szLeft, if_pos (by omega)]; rfl] at hE ⊢
      go_wp2
      go_ret
      exact ⟨ret_int hE.out.symm, (Below.refl _ _).alloc (Nat.le_refl _) _⟩
    · rw [show szLeft x cl 0 = -1 by rw [szLeft, if_neg (by omega)]] at hE ⊢
      go_wp2
      go_ret
      exact ⟨ret_int hE.out.symm, (Below.refl _ _).alloc (Nat.le_refl _) _⟩
  · have HQ : Hid _ := fun o => law_szStrs ra rl rc recs 1048576 (w.alloc o) (HR.out o) hn HS.out (by omega)
    rw [show szLeft 1048576 rl (strSum recs) = -1 by rw [szLeft, if_neg h0]] at HQ
    have hE : Hid (ringLeft 1048576 rl (strSum recs) cl = -1) := show _ = _ by rw [ringLeft, if_neg (by omega)]
    clear h0
    go_enter Tryd.func6, Tryd.ntmps6
    go_wp2_with fail
    refine (HQ.out _).mono ?_
    rintro e w1 ⟨rfl, rfl⟩
    go_wp2
    go_ret
    exact ⟨ret_int hE.out.symm, (Below.refl _ _).alloc (Nat.le_refl _) _⟩
end Go.Proofs.YtblkbpgnhkjaaaaDoor
