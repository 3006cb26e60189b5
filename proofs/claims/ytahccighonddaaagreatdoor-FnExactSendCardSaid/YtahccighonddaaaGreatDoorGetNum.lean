import Derived.Test.YtahccighonddaaaGreatDoorTextOut
import Derived.Test.YtahccighonddaaaGreatDoorJumps
import Derived.Test.YtahccighonddaaaGreatDoorScanMath
import Derived.WalkMore
import Derived.Laws.BitsAllLaws
import Derived.Test.YtahccighonddaaaGreatDoorAs
import Derived.Laws.Bits64
namespace Go.Proofs.YtahccighonddaaaGreatDoor
open Go.RowKit
abbrev fault (c : Int) : Value := .iface 308 (.agg #[.int .i64 c])
theorem readBits_short (s : ByteArray) (p : Int) (w : World) (_hs : s.size ≤ 8000) (h : (s.size : Int) ≤ p) :
    Calls Tryz.prog 262 #[.string s, .int .i64 p] w fun e w' => e = .returned (.tuple #[.int .u64 0, .int .i64 0, fault 4]) ∧ w' = w := by
  go_enter Tryz.func262, Tryz.ntmps262
  go_wp2
  go_step3
  go_wp2
  go_step3
  go_wp2
  rw [Exit.noGoto_ret]
  go_ret3
  exact ⟨rfl, rfl⟩
def atLabel (s : ByteArray) (p : Nat) (R : Nat × Nat × Nat) (l : Nat) (a : Act) : Prop :=
  match l with
  | 0 => ∃ (k U : Nat) (b : Value) (u10 u11 u12 u13 u14 u15 u16 u17 u18 u19 u20 u21 u22 u23 u24 u25 u26 u27 u28 u29 u30 u31 u32 u33 u34 u35 u36 u37 u38 u39 u40 u41 u42 u43 u44 u45 u46 u47 u48 u49 u50 u51 u52 : Value), a = { tmps := (.string s :: .int .i64 ((p + k : Nat) : Int) :: undef :: undef :: .int .u64 0 :: .int .i64 0 :: .nilIface :: b :: .int .u64 U :: .int .i64 k :: u10 :: u11 :: u12 :: u13 :: u14 :: u15 :: u16 :: u17 :: u18 :: u19 :: u20 :: u21 :: u22 :: u23 :: u24 :: u25 :: u26 :: u27 :: u28 :: u29 :: u30 :: u31 :: u32 :: u33 :: u34 :: u35 :: u36 :: u37 :: u38 :: u39 :: u40 :: u41 :: u42 :: u43 :: u44 :: u45 :: u46 :: u47 :: u48 :: u49 :: u50 :: u51 :: u52 :: []).toArray, defers := [] } ∧
      k ≤ 9 ∧ p + k ≤ s.size ∧ U < 128 ^ k ∧ scan (s.data.toList.drop (p + k)) k U = R
  | 1 => ∃ (k U b : Nat) (u10 u11 u12 u13 u14 u15 u16 u17 u18 u19 u20 u21 u22 u23 u24 u25 u26 u27 u28 u29 u30 u31 u32 u33 u34 u35 u36 u37 u38 u39 u40 u41 u42 u43 u44 u45 u46 u47 u48 u49 u50 u51 u52 : Value), a = { tmps := (.string s :: .int .i64 ((p + k : Nat) : Int) :: undef :: undef :: .int .u64 0 :: .int .i64 0 :: .nilIface :: .int .u8 b :: .int .u64 U :: .int .i64 k :: u10 :: u11 :: u12 :: u13 :: u14 :: u15 :: u16 :: u17 :: u18 :: u19 :: u20 :: u21 :: u22 :: u23 :: u24 :: u25 :: u26 :: u27 :: u28 :: u29 :: u30 :: u31 :: u32 :: u33 :: u34 :: u35 :: u36 :: u37 :: u38 :: u39 :: u40 :: u41 :: u42 :: u43 :: u44 :: u45 :: u46 :: u47 :: u48 :: u49 :: u50 :: u51 :: u52 :: []).toArray, defers := [] } ∧
      1 ≤ k ∧ k ≤ 10 ∧ p + k ≤ s.size ∧ b < 256 ∧ R = (if k = 10 ∧ 1 < b then (0, 0, 3) else if 1 < k ∧ b = 0 then (0, 0, 3) else (U, k, 0))
  | 2 => ∃ (v1 v7 v8 v9 u10 u11 u12 u13 u14 u15 u16 u17 u18 u19 u20 u21 u22 u23 u24 u25 u26 u27 u28 u29 u30 u31 u32 u33 u34 u35 u36 u37 u38 u39 u40 u41 u42 u43 u44 u45 u46 u47 u48 u49 u50 u51 u52 : Value), a = { tmps := (.string s :: v1 :: undef :: undef :: .int .u64 0 :: .int .i64 0 :: .nilIface :: v7 :: v8 :: v9 :: u10 :: u11 :: u12 :: u13 :: u14 :: u15 :: u16 :: u17 :: u18 :: u19 :: u20 :: u21 :: u22 :: u23 :: u24 :: u25 :: u26 :: u27 :: u28 :: u29 :: u30 :: u31 :: u32 :: u33 :: u34 :: u35 :: u36 :: u37 :: u38 :: u39 :: u40 :: u41 :: u42 :: u43 :: u44 :: u45 :: u46 :: u47 :: u48 :: u49 :: u50 :: u51 :: u52 :: []).toArray, defers := [] } ∧ R = (0, 0, 3)
  | _ => False
def labelLeft (l : Nat) (a : Act) : Nat :=
  match l with
  | 0 => 12 - (intOf (a.tmps.getD 9 undef)).toNat
  | 1 => 1
  | _ => 0
def bitsEnd (p : Nat) (R : Nat × Nat × Nat) : Value :=
  if R.2.2 = 0 then .tuple #[.int .u64 R.1, .int .i64 ((p + R.2.1 : Nat) : Int), .nilIface] else .tuple #[.int .u64 0, .int .i64 0, fault R.2.2]
theorem drop_cons_at (s : ByteArray) (q : Nat) (h : q < s.size) : s.data.toList.drop q = s[q] :: s.data.toList.drop (q + 1) := by
  rw [List.drop_eq_getElem_cons (by simpa using h)]; rfl
theorem or_step (U x k : Nat) (hU : U < 128 ^ k) (hk : k ≤ 9) : ∃ V : Nat, bits .or .u64 (U : Int) (IntKind.u64.wrap ((x : Int) % 128 * 2 ^ (7 * k))) = (V : Int) ∧ Hid (k ≤ 8 ∨ x ≤ 1 → V = U + x % 128 * 128 ^ k) := by
  have hp : (2 : Nat) ^ (7 * k) = 128 ^ k := by rw [Nat.pow_mul]
  have hle := pow_le hk
  have e : (x : Int) % 128 * 2 ^ (7 * k) = ((x % 128 * 128 ^ k : Nat) : Int) := by
    rw [← hp]; simp
  refine ⟨U ||| (x % 128 * 128 ^ k % 18446744073709551616), ?_, ?_⟩
  · rw [e, IntKind.wrap_u64]
    have h := u64_or_nat U (x % 128 * 128 ^ k % 18446744073709551616) (by omega) (Nat.mod_lt _ (by omega))
    rw [← h]
    rfl
  · intro hc
    have hlt : x % 128 * 128 ^ k < 18446744073709551616 := by
      rcases hc with hc | hc
      · have h8 : 128 ^ k ≤ 128 ^ 8 := Nat.pow_le_pow_right (n := 128) (by omega) hc
        have h8' : (128 : Nat) ^ 8 = 72057594037927936 := by decide
        have : x % 128 * 128 ^ k ≤ 127 * 128 ^ 8 := Nat.mul_le_mul (by omega) h8
        omega
      · have : x % 128 * 128 ^ k ≤ 1 * 128 ^ k := Nat.mul_le_mul_right _ (by omega)
        omega
    rw [Nat.mod_eq_of_lt hlt, Nat.or_comm]
    have h := nat_join (7 * k) (x % 128 * 128 ^ k) U (by rw [hp]; exact Nat.mul_mod_left _ _) (by rw [hp]; exact hU)
    omega
theorem bitsEnd_bad (p : Nat) (c : Nat) (h : c ≠ 0) : bitsEnd p (0, 0, c) = .tuple #[.int .u64 0, .int .i64 0, fault c] := by
  simp [bitsEnd, h]
theorem bitsEnd_good (p U k : Nat) : bitsEnd p (U, k, 0) = .tuple #[.int .u64 U, .int .i64 ((p + k : Nat) : Int), .nilIface] := by
  simp [bitsEnd]
theorem and127 (x : Nat) (h : x < 256) : bits .and .u8 (x : Int) 127 = ((x % 128 : Nat) : Int) := by
  have h := u8_and_nat x 127 h (by omega)
  rw [nat_mask7] at h
  exact h
theorem scan_atLast {b : UInt8} {r : List UInt8} {k U V : Nat} {R : Nat × Nat × Nat} (h : scan (b :: r) k U = R) (hb : b.toNat < 128) (hk : k ≤ 9) (hV : k ≤ 8 ∨ b.toNat ≤ 1 → V = U + b.toNat % 128 * 128 ^ k) :
    R = (if k + 1 = 10 ∧ 1 < b.toNat then (0, 0, 3) else if 1 < k + 1 ∧ b.toNat = 0 then (0, 0, 3) else (V, k + 1, 0)) := by
  rw [← h, scan, if_pos (.inl hb)]
  by_cases c1 : k = 9 ∧ 1 < b.toNat
  · rw [if_pos c1, if_pos (show k + 1 = 10 ∧ 1 < b.toNat by omega)]
  · rw [if_neg c1, if_neg (show ¬ (k + 1 = 10 ∧ 1 < b.toNat) by omega)]
    by_cases c2 : 0 < k ∧ b.toNat = 0
    · rw [if_pos c2, if_pos (show 1 < k + 1 ∧ b.toNat = 0 by omega)]
    · rw [if_neg c2, if_neg (show ¬ (1 < k + 1 ∧ b.toNat = 0) by omega), hV (by omega), Nat.mod_eq_of_lt hb]
theorem scan_atMore {b : UInt8} {r : List UInt8} {k U V : Nat} {R : Nat × Nat × Nat} (h : scan (b :: r) k U = R) (hb : ¬ b.toNat < 128) (hk : k ≤ 8) (hV : k ≤ 8 ∨ b.toNat ≤ 1 → V = U + b.toNat % 128 * 128 ^ k) (hU : U < 128 ^ k) :
    V < 128 ^ (k + 1) ∧ scan r (k + 1) V = R := by
  have hlt := b.toNat_lt
  have e : b.toNat % 128 = b.toNat - 128 := by omega
  rw [scan_more hb (by omega)] at h
  have hV' := hV (.inl hk)
  rw [e] at hV'
  subst hV'
  exact ⟨pow_step hU (by omega), h⟩
theorem or_zero (x : Nat) : bits .or .u64 0 ((x : Int) % 128) = ((x % 128 : Nat) : Int) := by
  have h := u64_or_nat 0 (x % 128) (by omega) (by omega)
  rw [Nat.zero_or] at h
  rw [← h]
  rfl
theorem ret_tup {a b : Value} (h : a = b) : Ending.returned a = .returned b := by rw [h]
set_option maxRecDepth 100000 in
set_option maxHeartbeats 4000000 in
theorem readBits_any (s : ByteArray) (p : Nat) (w : World) (hs : s.size ≤ 8000) (hp : p < s.size) (R : Nat × Nat × Nat) (hR : R = scan (s.data.toList.drop p) 0 0) :
    Calls Tryz.prog 262 #[.string s, .int .i64 p] w fun e w' => e = .returned (bitsEnd p R) ∧ w' = w := by
  have HR : Hid (R = scan (s.data.toList.drop p) 0 0) := hR
  clear hR
  go_enter Tryz.func262, Tryz.ntmps262
  go_wp2
  refine wp_scope_labels (findLabel _) (fun l a w' => w' = w ∧ atLabel s p R l a) (fun l a _ => labelLeft l a) (fun _ _ h => h) ?_ ?_
  · have hand := and127 s[p].toNat s[p].toNat_lt
    have hlt := s[p].toNat_lt
    have hor := or_zero s[p].toNat
    have HSC : Hid (scan (s[p] :: s.data.toList.drop (p + 1)) 0 0 = R) := by
      have h := HR.out.symm
      rw [drop_cons_at s p hp] at h
      exact h
    clear HR
    by_cases hb : s[p].toNat < 128
    · go_wp2
      go_step3
      go_wp2
      go_step3
      refine ⟨rfl, rfl, 1, s[p].toNat % 128, s[p].toNat, _, _, _, _, _, _, _, _, _, _, _, _, _, _, _, _, _, _, _, _, _, _, _, _, _, _, _, _, _, _, _, _, _, _, _, _, _, _, _, _, _, _, _, rfl, by omega, by omega, by omega, hlt, ?_⟩
      exact scan_atLast HSC.out hb (by omega) (fun _ => by omega)
    · go_wp2
      go_step3
      go_wp2
      go_step3
      have h2 := scan_atMore (V := s[p].toNat % 128) HSC.out hb (by omega) (fun _ => by omega) (by decide)
      exact ⟨rfl, rfl, 1, s[p].toNat % 128, _, _, _, _, _, _, _, _, _, _, _, _, _, _, _, _, _, _, _, _, _, _, _, _, _, _, _, _, _, _, _, _, _, _, _, _, _, _, _, _, _, _, _, _, rfl, by omega, by omega, h2.1, h2.2⟩
  · intro l r a w' hr hJ
    obtain ⟨rfl, hJ⟩ := hJ
    rcases l with _ | _ | _ | n
    · obtain ⟨k, U, b, u10, u11, u12, u13, u14, u15, u16, u17, u18, u19, u20, u21, u22, u23, u24, u25, u26, u27, u28, u29, u30, u31, u32, u33, u34, u35, u36, u37, u38, u39, u40, u41, u42, u43, u44, u45, u46, u47, u48, u49, u50, u51, u52, rfl, hk, hpk, hU, hsc⟩ := hJ
      simp [findLabel] at hr
      subst hr
      have HSC : Hid (scan (s.data.toList.drop (p + k)) k U = R) := hsc
      have HU : Hid (U < 128 ^ k) := hU
      obtain ⟨V, hor, hV⟩ := or_step U (s[p + k]!.toNat) k hU hk
      clear hsc hU
      by_cases hk2 : p + k < s.size
      · have hand := and127 s[p + k].toNat s[p + k].toNat_lt
        have hlt := s[p + k].toNat_lt
        have hbang : s[p + k]! = s[p + k] := getElem!_pos s (p + k) hk2
        rw [hbang] at hor hV
        clear hbang
        by_cases hb : s[p + k].toNat < 128
        · go_wp2
          go_step3
          refine ⟨rfl, ⟨rfl, k + 1, V, s[p + k].toNat, _, _, _, _, _, _, _, _, _, _, _, _, _, _, _, _, _, _, _, _, _, _, _, _, _, _, _, _, _, _, _, _, _, _, _, _, _, _, _, _, _, _, _, rfl, by omega, by omega, by omega, hlt, ?_⟩, ?_⟩
          · have h := HSC.out
            rw [drop_cons_at s (p + k) hk2] at h
            exact scan_atLast h hb hk hV.out
          · simp [labelLeft, intOf]; omega
        · by_cases hk9 : k = 9
          · have hk9b : ((k : Int) + 1 == 10) = true := by rw [beq_iff_eq]; omega
            have HK : Hid (k = 9) := hk9
            clear hk9
            go_wp2
            go_step3
            refine ⟨rfl, ⟨rfl, k + 1, V, s[p + k].toNat, _, _, _, _, _, _, _, _, _, _, _, _, _, _, _, _, _, _, _, _, _, _, _, _, _, _, _, _, _, _, _, _, _, _, _, _, _, _, _, _, _, _, _, rfl, by omega, by omega, by omega, hlt, ?_⟩, ?_⟩
            · have h := HSC.out
              have e := HK.out
              rw [drop_cons_at s (p + k) hk2] at h
              rw [if_pos (by omega)]
              subst e
              rw [scan_wrong9 (by omega)] at h
              exact h.symm
            · simp [labelLeft, intOf]; omega
          · have hk9b : ((k : Int) + 1 == 10) = false := by rw [beq_eq_false_iff_ne]; omega
            go_wp2
            go_step3
            have h := HSC.out
            rw [drop_cons_at s (p + k) hk2] at h
            have h2 := scan_atMore h hb (by omega) hV.out HU.out
            refine ⟨rfl, ⟨rfl, k + 1, V, _, _, _, _, _, _, _, _, _, _, _, _, _, _, _, _, _, _, _, _, _, _, _, _, _, _, _, _, _, _, _, _, _, _, _, _, _, _, _, _, _, _, _, _, rfl, by omega, by omega, h2.1, h2.2⟩, ?_⟩
            simp [labelLeft, intOf]; omega
      · have HE : Hid (R = (0, 0, 4)) := by
          have h := HSC.out
          rw [List.drop_of_length_le (by simp; omega)] at h
          exact h.symm
        have hge : (s.size : Int) ≤ (p : Int) + (k : Int) := by omega
        clear hor
        go_wp2
        simp only [exitJumps]
        go_ret3
        exact ⟨ret_tup (by rw [HE.out, bitsEnd_bad _ _ (by omega)]; rfl), rfl⟩
    · obtain ⟨k, U, b, u10, u11, u12, u13, u14, u15, u16, u17, u18, u19, u20, u21, u22, u23, u24, u25, u26, u27, u28, u29, u30, u31, u32, u33, u34, u35, u36, u37, u38, u39, u40, u41, u42, u43, u44, u45, u46, u47, u48, u49, u50, u51, u52, rfl, hk1, hk, hpk, hb, hRe⟩ := hJ
      simp [findLabel] at hr
      subst hr
      have HRE : Hid (R = (if k = 10 ∧ 1 < b then (0, 0, 3) else if 1 < k ∧ b = 0 then (0, 0, 3) else (U, k, 0))) := hRe
      clear hRe
      by_cases c1 : k = 10 ∧ 1 < b
      · obtain ⟨rfl, c1⟩ := c1
        have HE : Hid (R = (0, 0, 3)) := HRE.out.trans (if_pos ⟨rfl, c1⟩)
        go_wp2
        go_step3
        refine ⟨rfl, ⟨rfl, _, _, _, _, _, _, _, _, _, _, _, _, _, _, _, _, _, _, _, _, _, _, _, _, _, _, _, _, _, _, _, _, _, _, _, _, _, _, _, _, _, _, _, _, _, _, _, rfl, HE.out⟩, ?_⟩
        simp [labelLeft]
      · by_cases c2 : 1 < k ∧ b = 0
        · obtain ⟨c2, rfl⟩ := c2
          have HE : Hid (R = (0, 0, 3)) := HRE.out.trans ((if_neg c1).trans (if_pos ⟨c2, rfl⟩))
          by_cases c3 : k = 10
          · subst c3
            go_wp2
            go_step3
            refine ⟨rfl, ⟨rfl, _, _, _, _, _, _, _, _, _, _, _, _, _, _, _, _, _, _, _, _, _, _, _, _, _, _, _, _, _, _, _, _, _, _, _, _, _, _, _, _, _, _, _, _, _, _, _, rfl, HE.out⟩, ?_⟩
            simp [labelLeft]
          · have c3b : ((k : Int) == 10) = false := by rw [beq_eq_false_iff_ne]; omega
            go_wp2
            go_step3
            refine ⟨rfl, ⟨rfl, _, _, _, _, _, _, _, _, _, _, _, _, _, _, _, _, _, _, _, _, _, _, _, _, _, _, _, _, _, _, _, _, _, _, _, _, _, _, _, _, _, _, _, _, _, _, _, rfl, HE.out⟩, ?_⟩
            simp [labelLeft]
        · have HE : Hid (R = (U, k, 0)) := HRE.out.trans ((if_neg c1).trans (if_neg c2))
          by_cases c3 : k = 10
          · subst c3
            have c4 : b = 1 := by omega
            subst c4
            go_wp2
            simp only [exitJumps]
            go_ret3
            exact ⟨ret_tup (by rw [HE.out, bitsEnd_good]; rfl), rfl⟩
          · have c3b : ((k : Int) == 10) = false := by rw [beq_eq_false_iff_ne]; omega
            by_cases c5 : 1 < k
            · have c6 : ((b : Int) == 0) = false := by rw [beq_eq_false_iff_ne]; omega
              clear c1 c2
              go_wp2
              simp only [exitJumps]
              go_ret3
              exact ⟨ret_tup (by rw [HE.out, bitsEnd_good]; rfl), rfl⟩
            · clear c1 c2
              go_wp2
              simp only [exitJumps]
              go_ret3
              exact ⟨ret_tup (by rw [HE.out, bitsEnd_good]; rfl), rfl⟩
    · obtain ⟨v1, v7, v8, v9, u10, u11, u12, u13, u14, u15, u16, u17, u18, u19, u20, u21, u22, u23, u24, u25, u26, u27, u28, u29, u30, u31, u32, u33, u34, u35, u36, u37, u38, u39, u40, u41, u42, u43, u44, u45, u46, u47, u48, u49, u50, u51, u52, rfl, hRe⟩ := hJ
      simp [findLabel] at hr
      subst hr
      have HRE : Hid (R = (0, 0, 3)) := hRe
      clear hRe
      go_wp2
      simp only [exitJumps]
      go_ret3
      exact ⟨ret_tup (by rw [HRE.out, bitsEnd_bad _ _ (by omega)]; rfl), rfl⟩
    · exact hJ.elim
end Go.Proofs.YtahccighonddaaaGreatDoor
namespace Go.Proofs.YtahccighonddaaaGreatDoor
open Go.RowKit
theorem scan_lt : ∀ (l : List UInt8) (k U : Nat), U < 128 ^ k → k ≤ 9 → (scan l k U).1 < 18446744073709551616 ∧ (scan l k U).2.1 ≤ l.length + k ∧ (scan l k U).2.2 ≤ 4
  | [], _, _, _, _ => by simp [scan]
  | b :: r, k, U, hU, hk => by
    have hlt := b.toNat_lt
    have hp := pow_le hk
    by_cases h : b.toNat < 128 ∨ k = 9
    · rw [scan, if_pos h]
      split
      · simp
      · split
        · simp
        · rename_i c1 c2
          refine ⟨?_, by simp; omega, by simp⟩
          show U + b.toNat * 128 ^ k < _
          by_cases h9 : k = 9
          · subst h9
            have : b.toNat * 128 ^ 9 ≤ 1 * 128 ^ 9 := Nat.mul_le_mul_right _ (by omega)
            omega
          · have h8 : 128 ^ k ≤ 128 ^ 8 := Nat.pow_le_pow_right (n := 128) (by omega) (by omega)
            have h8' : (128 : Nat) ^ 8 = 72057594037927936 := by decide
            have : b.toNat * 128 ^ k ≤ 127 * 128 ^ 8 := Nat.mul_le_mul (by omega) h8
            omega
    · rw [scan_more (by omega) (by omega)]
      have h := scan_lt r (k + 1) (U + (b.toNat - 128) * 128 ^ k) (pow_step hU (by omega)) (by omega)
      exact ⟨h.1, by have := h.2.1; simp; omega, h.2.2⟩
theorem wrap_half (u : Nat) (h : u < 18446744073709551616) : IntKind.u64.wrap ((u : Int) / 2) = (u : Int) / 2 := by
  rw [IntKind.wrap_u64]
  omega
theorem i64_half (u : Nat) (h : u < 18446744073709551616) : IntKind.i64.wrap ((u : Int) / 2) = (u : Int) / 2 := by
  simp [IntKind.wrap, IntKind.bits, IntKind.signed]; omega
theorem wrap_neg (u : Nat) (h : u < 18446744073709551616) : wrap64 (wrap64 (-((u : Int) / 2)) - 1) = -((u : Int) / 2) - 1 := by
  unfold wrap64
  omega
theorem impl_unfoldSign (u : Nat) (w : World) (h : u < 18446744073709551616) :
    Calls Tryz.prog 263 #[.int .u64 u] w fun e w' => e = .returned (.int .i64 (unfold64 u)) ∧ w' = w := by
  have hw := wrap_half u h
  have hw2 := i64_half u h
  have H : Hid (u < 18446744073709551616) := h
  clear h
  by_cases he : u % 2 = 0
  · have heb : ((u : Int) % 2 == 0) = true := by rw [beq_iff_eq]; omega
    have E : Hid ((u : Int) / 2 = unfold64 u) := by show _ = _; rw [unfold64, if_pos he]; omega
    clear he
    go_enter Tryz.func263, Tryz.ntmps263
    go_wp2
    go_ret
    exact ⟨ret_int E.out, rfl⟩
  · have heb : ((u : Int) % 2 == 0) = false := by rw [beq_eq_false_iff_ne]; omega
    have E : Hid (-((u : Int) / 2) - 1 = unfold64 u) := by show _ = _; rw [unfold64, if_neg he]; omega
    clear he
    go_enter Tryz.func263, Tryz.ntmps263
    go_wp2
    go_ret
    exact ⟨ret_int ((wrap_neg u H.out).trans E.out), rfl⟩
theorem placeFault_size (s : ByteArray) (a : Int) (w : World) (hm : s.size ≤ maxLen) (h : 8000 < s.size) :
    Calls Tryz.prog 261 #[.string s, .int .i64 a] w fun e w' => e = .returned (fault 2) ∧ w' = w := by
  unfold maxLen at hm
  go_enter Tryz.func261, Tryz.ntmps261
  go_wp2
  go_ret
  exact ⟨rfl, rfl⟩
theorem placeFault_form (s : ByteArray) (a : Int) (w : World) (h : s.size ≤ 8000) (ha : a < 0) :
    Calls Tryz.prog 261 #[.string s, .int .i64 a] w fun e w' => e = .returned (fault 1) ∧ w' = w := by
  go_enter Tryz.func261, Tryz.ntmps261
  go_wp2
  go_ret
  exact ⟨rfl, rfl⟩
theorem placeFault_ok (s : ByteArray) (a : Int) (w : World) (h : s.size ≤ 8000) (ha : 0 ≤ a) :
    Calls Tryz.prog 261 #[.string s, .int .i64 a] w fun e w' => e = .returned .nilIface ∧ w' = w := by
  go_enter Tryz.func261, Tryz.ntmps261
  go_wp2
  go_ret
  exact ⟨rfl, rfl⟩
def errOf (c : Nat) : Value := if c = 0 then .nilIface else fault c
def numRes (s : ByteArray) (a : Int) : Int × Int × Nat :=
  if 8000 < s.size then (0, 0, 2) else if a < 0 then (0, 0, 1) else
    let R := scan (s.data.toList.drop a.toNat) 0 0
    if R.2.2 = 0 then (unfold64 R.1, ((a.toNat + R.2.1 : Nat) : Int), 0) else (0, 0, R.2.2)
abbrev numTup (r : Int × Int × Nat) : Value := .tuple #[.int .i64 r.1, .int .i64 r.2.1, errOf r.2.2]
theorem readNum_size (s : ByteArray) (a : Int) (w : World) (hm : s.size ≤ maxLen) (h : 8000 < s.size) :
    Calls Tryz.prog 256 #[.string s, .int .i64 a] w fun e w' => e = .returned (numTup (0, 0, 2)) ∧ w' = w := by
  have HM : Hid (s.size ≤ maxLen) := hm
  clear hm
  go_enter Tryz.func256, Tryz.ntmps256
  go_wp2_with (first | (go_at_call 261; refine (placeFault_size _ _ _ HM.out h).mono ?_; rintro e w' ⟨rfl, rfl⟩))
  go_ret3
  exact ⟨rfl, rfl⟩
theorem readNum_form (s : ByteArray) (a : Int) (w : World) (h : s.size ≤ 8000) (ha : a < 0) :
    Calls Tryz.prog 256 #[.string s, .int .i64 a] w fun e w' => e = .returned (numTup (0, 0, 1)) ∧ w' = w := by
  go_enter Tryz.func256, Tryz.ntmps256
  go_wp2_with (first | (go_at_call 261; refine (placeFault_form _ _ _ h ha).mono ?_; rintro e w' ⟨rfl, rfl⟩))
  go_ret3
  exact ⟨rfl, rfl⟩
theorem readNum_bad (s : ByteArray) (a : Int) (c : Nat) (w : World) (h : s.size ≤ 8000) (ha : 0 ≤ a) (hc : c ≠ 0)
    (H : ∀ w, Calls Tryz.prog 262 #[.string s, .int .i64 a] w fun e w' => e = .returned (.tuple #[.int .u64 0, .int .i64 0, fault c]) ∧ w' = w) :
    Calls Tryz.prog 256 #[.string s, .int .i64 a] w fun e w' => e = .returned (numTup (0, 0, c)) ∧ w' = w := by
  have HH : Hid _ := H
  clear H
  have HE : Hid (fault c = errOf c) := by show _ = _; rw [errOf, if_neg hc]
  clear hc
  go_enter Tryz.func256, Tryz.ntmps256
  go_wp2_with (first | (go_at_call 261; refine (placeFault_ok _ _ _ h ha).mono ?_; rintro e w' ⟨rfl, rfl⟩) | (go_at_call 262; refine (HH.out _).mono ?_; rintro e w' ⟨rfl, rfl⟩))
  go_ret3
  exact ⟨ret_tup (by simp only [numTup]; rw [← HE.out]; rfl), rfl⟩
theorem readNum_good (s : ByteArray) (a : Int) (u k : Nat) (w : World) (h : s.size ≤ 8000) (ha : 0 ≤ a) (hu : u < 18446744073709551616)
    (H : ∀ w, Calls Tryz.prog 262 #[.string s, .int .i64 a] w fun e w' => e = .returned (.tuple #[.int .u64 u, .int .i64 k, .nilIface]) ∧ w' = w) :
    Calls Tryz.prog 256 #[.string s, .int .i64 a] w fun e w' => e = .returned (numTup (unfold64 u, k, 0)) ∧ w' = w := by
  have HH : Hid _ := H
  clear H
  have HU : Hid (u < 18446744073709551616) := hu
  clear hu
  go_enter Tryz.func256, Tryz.ntmps256
  go_wp2_with (first | (go_at_call 261; refine (placeFault_ok _ _ _ h ha).mono ?_; rintro e w' ⟨rfl, rfl⟩) | (go_at_call 262; refine (HH.out _).mono ?_; rintro e w' ⟨rfl, rfl⟩) | (go_at_call 263; refine (impl_unfoldSign _ _ HU.out).mono ?_; rintro e w' ⟨rfl, rfl⟩))
  go_ret3
  exact ⟨rfl, rfl⟩
theorem impl_readNum (s : ByteArray) (a : Int) (w : World) (hm : s.size ≤ maxLen) :
    Calls Tryz.prog 256 #[.string s, .int .i64 a] w fun e w' => e = .returned (numTup (numRes s a)) ∧ w' = w := by
  unfold numRes
  by_cases h : 8000 < s.size
  · rw [if_pos h]; exact readNum_size s a w hm h
  rw [if_neg h]
  by_cases ha : a < 0
  · rw [if_pos ha]; exact readNum_form s a w (by omega) ha
  rw [if_neg ha]
  obtain ⟨p, rfl⟩ := Int.eq_ofNat_of_zero_le (show 0 ≤ a by omega)
  rw [Int.toNat_natCast]
  have hb := scan_lt (s.data.toList.drop p) 0 0 (by decide) (by omega)
  by_cases hp : p < s.size
  · have H := fun w => readBits_any s p w (by omega) hp _ rfl
    generalize scan (s.data.toList.drop p) 0 0 = R at hb H ⊢
    obtain ⟨U, k, c⟩ := R
    by_cases hc : c = 0
    · subst hc
      rw [bitsEnd_good] at H
      exact readNum_good s p U (p + k) w (by omega) (by omega) hb.1 H
    · have e : (fun w => bitsEnd p (U, k, c)) = fun (w : World) => Value.tuple #[.int .u64 0, .int .i64 0, fault c] := by
        funext w; simp [bitsEnd, hc]
      simp only [if_neg hc]
      refine readNum_bad s p c w (by omega) (by omega) hc (fun w => ?_)
      have := H w
      rw [show bitsEnd p (U, k, c) = .tuple #[.int .u64 0, .int .i64 0, fault c] from congrFun e w] at this
      exact this
  · have e : s.data.toList.drop p = [] := List.drop_of_length_le (by simp; omega)
    rw [e]
    exact readNum_bad s p 4 w (by omega) (by omega) (by omega) (fun w => readBits_short s p w (by omega) (by omega))
abbrev numOut (r : Int × Int × Nat) : Value := .agg #[.int .i64 r.1, .int .i64 r.2.1, .int .i64 (r.2.2 : Int)]
theorem spec_getNum_size (s : ByteArray) (a : Int) (w : World) (hm : s.size ≤ maxLen) (h : 8000 < s.size) :
    Calls Tryz.prog 169 #[.string s, .int .i64 a] w fun e w' => e = .returned (numOut (0, 0, 2)) ∧ Below w.heap.size w w' := by
  unfold maxLen at hm
  go_enter Tryz.func169, Tryz.ntmps169
  go_wp2
  exact bodyPost_ret (v := numOut (0, 0, 2)) (by simp [results, Tryz.results169, go_sem]) rfl ⟨rfl, (Below.refl _ _).alloc (Nat.le_refl _) _⟩
theorem spec_getNum_form (s : ByteArray) (a : Int) (w : World) (h : s.size ≤ 8000) (ha : a < 0) :
    Calls Tryz.prog 169 #[.string s, .int .i64 a] w fun e w' => e = .returned (numOut (0, 0, 1)) ∧ Below w.heap.size w w' := by
  go_enter Tryz.func169, Tryz.ntmps169
  go_wp2
  exact bodyPost_ret (v := numOut (0, 0, 1)) (by simp [results, Tryz.results169, go_sem]) rfl ⟨rfl, (Below.refl _ _).alloc (Nat.le_refl _) _⟩
theorem numRes_bad {s : ByteArray} {p c : Nat} (h : s.size ≤ 8000) (hc : c ≠ 0) (hR : scan (s.data.toList.drop p) 0 0 = (0, 0, c)) : numRes s p = (0, 0, c) := by
  unfold numRes
  rw [if_neg (by omega), if_neg (by omega), Int.toNat_natCast, hR]
  simp [hc]
theorem numRes_good {s : ByteArray} {p U k : Nat} (h : s.size ≤ 8000) (hR : scan (s.data.toList.drop p) 0 0 = (U, k, 0)) : numRes s p = (unfold64 U, ((p + k : Nat) : Int), 0) := by
  unfold numRes
  rw [if_neg (by omega), if_neg (by omega), Int.toNat_natCast, hR]
  simp
theorem scan_wrong9' {b : UInt8} {r : List UInt8} {k U : Nat} (hk : k = 9) (h : 1 < b.toNat) : scan (b :: r) k U = (0, 0, 3) := by
  subst hk; exact scan_wrong9 h
theorem scan_last' {b : UInt8} {r : List UInt8} {k U : Nat} (h : b.toNat < 128) (h9 : k = 9 → b.toNat ≤ 1) (h0 : ¬ (0 < k ∧ b.toNat = 0)) : scan (b :: r) k U = (U + b.toNat % 128 * 128 ^ k, k + 1, 0) := by
  rw [scan_last h h9 h0, Nat.mod_eq_of_lt h]
theorem add_lt {U x k : Nat} (hU : U < 128 ^ k) (hk : k ≤ 9) (hc : k ≤ 8 ∨ x ≤ 1) : U + x % 128 * 128 ^ k < 18446744073709551616 := by
  have hle := pow_le hk
  rcases hc with hc | hc
  · have h8 : 128 ^ k ≤ 128 ^ 8 := Nat.pow_le_pow_right (n := 128) (by omega) hc
    have h8' : (128 : Nat) ^ 8 = 72057594037927936 := by decide
    have : x % 128 * 128 ^ k ≤ 127 * 128 ^ 8 := Nat.mul_le_mul (by omega) h8
    omega
  · have : x % 128 * 128 ^ k ≤ 1 * 128 ^ k := Nat.mul_le_mul_right _ (by omega)
    omega
theorem add_step (U x k : Nat) (hU : U < 128 ^ k) (hk : k ≤ 9) (hc : k ≤ 8 ∨ x ≤ 1) :
    IntKind.u64.wrap ((U : Int) + IntKind.u64.wrap ((x : Int) % 128 * 2 ^ (7 * k))) = ((U + x % 128 * 128 ^ k : Nat) : Int) := by
  have hp : (2 : Nat) ^ (7 * k) = 128 ^ k := by rw [Nat.pow_mul]
  have hlt := add_lt hU hk hc
  have e : (x : Int) % 128 * 2 ^ (7 * k) = ((x % 128 * 128 ^ k : Nat) : Int) := by
    rw [← hp]; simp
  rw [e, IntKind.wrap_u64, IntKind.wrap_u64]
  generalize x % 128 * 128 ^ k = y at hlt
  omega
theorem fold_back (V : Nat) (h : V < 18446744073709551616) : (((V : Int) % 2 == 1) = false ∧ Hid ((V : Int) / 2 = unfold64 V)) ∨ (((V : Int) % 2 == 1) = true ∧ Hid (wrap64 (wrap64 (-((V : Int) / 2)) - 1) = unfold64 V)) := by
  by_cases he : V % 2 = 0
  · exact .inl ⟨by rw [beq_eq_false_iff_ne]; omega, by show _ = _; rw [unfold64, if_pos he]; omega⟩
  · exact .inr ⟨by rw [beq_iff_eq]; omega, by show _ = _; rw [wrap_neg V h, unfold64, if_neg he]; omega⟩
theorem num_end {r : Int × Int × Nat} {n n' a' : Int} {q : Nat} (h : r = (n, ((q : Nat) : Int), 0)) (e1 : n' = n) (e2 : a' = ((q : Nat) : Int)) :
    Ending.returned (.agg #[.int .i64 n', .int .i64 a', .int .i64 0]) = .returned (numOut r) := by
  subst h e1 e2
  rfl
set_option maxRecDepth 100000 in
set_option maxHeartbeats 4000000 in
theorem spec_getNum_any (s : ByteArray) (p : Nat) (w : World) (h : s.size ≤ 8000) (r : Int × Int × Nat) (hr : r = numRes s p) :
    Calls Tryz.prog 169 #[.string s, .int .i64 p] w fun e w' => e = .returned (numOut r) ∧ Below w.heap.size w w' := by
  have HR : Hid (r = numRes s p) := hr
  clear hr
  go_enter Tryz.func169, Tryz.ntmps169
  go_wp2
  go_loop [5, 6, 7, 8] (fun u i _ _ => ∃ (k U : Nat), k ≤ 9 ∧ i = .int .i64 k ∧ u = .int .u64 U ∧ Hid (U < 128 ^ k) ∧ Hid (scan (s.data.toList.drop (p + k)) k U = scan (s.data.toList.drop p) 0 0)) (fun _ i _ _ => 10 - (intOf i).toNat)
  case atStart => exact ⟨0, 0, by omega, rfl, rfl, by show (0 : Nat) < 128 ^ 0; decide, rfl⟩
  case round =>
    obtain ⟨k, U, hk, rfl, rfl, hU, hsc⟩ := hrel
    by_cases hk2 : p + k < s.size
    · have hlt := s[p + k].toNat_lt
      have HS : Hid (scan (s[p + k] :: s.data.toList.drop (p + k + 1)) k U = scan (s.data.toList.drop p) 0 0) := by
        have h := hsc.out
        rw [drop_cons_at s (p + k) hk2] at h
        exact h
      clear hsc
      by_cases hb : s[p + k].toNat < 128
      · by_cases c1 : k = 9 ∧ 1 < s[p + k].toNat
        · have HE : Hid (r = (0, 0, 3)) := HR.out.trans (numRes_bad h (by omega) ((HS.out.symm).trans (scan_wrong9' c1.1 c1.2)))
          have hk9b : ((k : Int) == 9) = true := by rw [beq_iff_eq]; omega
          have c1i : (1 : Int) < (s[p + k].toNat : Int) := by omega
          clear c1
          go_wp2
          exact bodyPost_ret (v := numOut (0, 0, 3)) (by simp [results, Tryz.results169, go_sem]) rfl ⟨by rw [HE.out], (Below.refl _ _).alloc (Nat.le_refl _) _⟩
        · have hst := add_step U s[p + k].toNat k hU.out hk (by omega)
          have hVlt : Hid (U + s[p + k].toNat % 128 * 128 ^ k < 18446744073709551616) := add_lt hU.out hk (by omega)
          by_cases c2 : 0 < k ∧ s[p + k].toNat = 0
          · have HE : Hid (r = (0, 0, 3)) := HR.out.trans (numRes_bad h (by omega) ((HS.out.symm).trans (scan_wrong0 c2.2 c2.1)))
            have c2b : ((s[p + k].toNat : Int) == 0) = true := by rw [beq_iff_eq]; omega
            have c2c : (s[p + k].toNat : Int) ≤ 1 := by omega
            obtain ⟨c2k, _⟩ := c2
            by_cases hk9 : k = 9
            · have hk9b : ((k : Int) == 9) = true := by rw [beq_iff_eq]; omega
              have HK : Hid (k = 9) := hk9
              clear hk9 c1 hst
              go_wp2
              exact bodyPost_ret (v := numOut (0, 0, 3)) (by simp [results, Tryz.results169, go_sem]) rfl ⟨by rw [HE.out], (Below.refl _ _).alloc (Nat.le_refl _) _⟩
            · have hk9b : ((k : Int) == 9) = false := by rw [beq_eq_false_iff_ne]; omega
              clear c1 hst
              go_wp2
              exact bodyPost_ret (v := numOut (0, 0, 3)) (by simp [results, Tryz.results169, go_sem]) rfl ⟨by rw [HE.out], (Below.refl _ _).alloc (Nat.le_refl _) _⟩
          · have HE : Hid (r = (unfold64 (U + s[p + k].toNat % 128 * 128 ^ k), ((p + (k + 1) : Nat) : Int), 0)) :=
              HR.out.trans (numRes_good h ((HS.out.symm).trans (scan_last' hb (by omega) c2)))
            generalize U + s[p + k].toNat % 128 * 128 ^ k = V at hst hVlt HE
            have hw := wrap_half V hVlt.out
            have hw2 := i64_half V hVlt.out
            by_cases c3 : s[p + k].toNat = 0
            · have c3b : ((s[p + k].toNat : Int) == 0) = true := by rw [beq_iff_eq]; omega
              have c4 : (k : Int) ≤ 0 := by omega
              have hk9b : ((k : Int) == 9) = false := by rw [beq_eq_false_iff_ne]; omega
              clear c1 c2 c3
              rcases fold_back V hVlt.out with ⟨c6, E1⟩ | ⟨c6, E1⟩
              · go_wp2
                exact bodyPost_ret (v := .agg #[.int .i64 ((V : Int) / 2), .int .i64 ((p : Int) + (k : Int) + 1), .int .i64 0]) (by simp [results, Tryz.results169, go_sem]) rfl ⟨num_end HE.out E1.out rfl, (Below.refl _ _).alloc (Nat.le_refl _) _⟩
              · go_wp2
                exact bodyPost_ret (v := .agg #[.int .i64 (wrap64 (wrap64 (-((V : Int) / 2)) - 1)), .int .i64 ((p : Int) + (k : Int) + 1), .int .i64 0]) (by simp [results, Tryz.results169, go_sem]) rfl ⟨num_end HE.out E1.out rfl, (Below.refl _ _).alloc (Nat.le_refl _) _⟩
            · have c3b : ((s[p + k].toNat : Int) == 0) = false := by rw [beq_eq_false_iff_ne]; omega
              by_cases hk9 : k = 9
              · have hk9b : ((k : Int) == 9) = true := by rw [beq_iff_eq]; omega
                have c5 : (s[p + k].toNat : Int) ≤ 1 := by omega
                have HK : Hid (k = 9) := hk9
                clear hk9 c1 c2
                rcases fold_back V hVlt.out with ⟨c6, E1⟩ | ⟨c6, E1⟩
                · go_wp2
                  exact bodyPost_ret (v := .agg #[.int .i64 ((V : Int) / 2), .int .i64 ((p : Int) + (k : Int) + 1), .int .i64 0]) (by simp [results, Tryz.results169, go_sem]) rfl ⟨num_end HE.out E1.out rfl, (Below.refl _ _).alloc (Nat.le_refl _) _⟩
                · go_wp2
                  exact bodyPost_ret (v := .agg #[.int .i64 (wrap64 (wrap64 (-((V : Int) / 2)) - 1)), .int .i64 ((p : Int) + (k : Int) + 1), .int .i64 0]) (by simp [results, Tryz.results169, go_sem]) rfl ⟨num_end HE.out E1.out rfl, (Below.refl _ _).alloc (Nat.le_refl _) _⟩
              · have hk9b : ((k : Int) == 9) = false := by rw [beq_eq_false_iff_ne]; omega
                clear c1 c2
                rcases fold_back V hVlt.out with ⟨c6, E1⟩ | ⟨c6, E1⟩
                · go_wp2
                  exact bodyPost_ret (v := .agg #[.int .i64 ((V : Int) / 2), .int .i64 ((p : Int) + (k : Int) + 1), .int .i64 0]) (by simp [results, Tryz.results169, go_sem]) rfl ⟨num_end HE.out E1.out rfl, (Below.refl _ _).alloc (Nat.le_refl _) _⟩
                · go_wp2
                  exact bodyPost_ret (v := .agg #[.int .i64 (wrap64 (wrap64 (-((V : Int) / 2)) - 1)), .int .i64 ((p : Int) + (k : Int) + 1), .int .i64 0]) (by simp [results, Tryz.results169, go_sem]) rfl ⟨num_end HE.out E1.out rfl, (Below.refl _ _).alloc (Nat.le_refl _) _⟩
      · by_cases hk9 : k = 9
        · have HE : Hid (r = (0, 0, 3)) := HR.out.trans (numRes_bad h (by omega) ((HS.out.symm).trans (scan_wrong9' hk9 (by omega))))
          have hk9b : ((k : Int) == 9) = true := by rw [beq_iff_eq]; omega
          have HK : Hid (k = 9) := hk9
          clear hk9
          go_wp2
          exact bodyPost_ret (v := numOut (0, 0, 3)) (by simp [results, Tryz.results169, go_sem]) rfl ⟨by rw [HE.out], (Below.refl _ _).alloc (Nat.le_refl _) _⟩
        · have hk9b : ((k : Int) == 9) = false := by rw [beq_eq_false_iff_ne]; omega
          have hst := add_step U s[p + k].toNat k hU.out hk (by omega)
          have h2 := scan_atMore HS.out hb (by omega) (fun _ => rfl) hU.out
          have h3 : Hid (U + s[p + k].toNat % 128 * 128 ^ k < 128 ^ (k + 1)) := h2.1
          have h4 : Hid (scan (s.data.toList.drop (p + (k + 1))) (k + 1) (U + s[p + k].toNat % 128 * 128 ^ k) = scan (s.data.toList.drop p) 0 0) := h2.2
          clear h2
          generalize U + s[p + k].toNat % 128 * 128 ^ k = V at hst h3 h4
          go_wp2
          go_round
          case rel => exact ⟨k + 1, V, by omega, by go_num, rfl, h3, h4⟩
          case measure => simp [intOf]; omega
    · have hge : (s.size : Int) - (k : Int) ≤ (p : Int) := by omega
      have HE : Hid (r = (0, 0, 4)) := HR.out.trans (numRes_bad h (by omega) ((hsc.out.symm).trans (by rw [List.drop_of_length_le (by simp; omega)]; rfl)))
      go_wp2
      exact bodyPost_ret (v := numOut (0, 0, 4)) (by simp [results, Tryz.results169, go_sem]) rfl ⟨by rw [HE.out], (Below.refl _ _).alloc (Nat.le_refl _) _⟩
theorem spec_getNum (s : ByteArray) (a : Int) (w : World) (hm : s.size ≤ maxLen) :
    Calls Tryz.prog 169 #[.string s, .int .i64 a] w fun e w' => e = .returned (numOut (numRes s a)) ∧ Below w.heap.size w w' := by
  by_cases h : 8000 < s.size
  · have e : numRes s a = (0, 0, 2) := by unfold numRes; rw [if_pos h]
    rw [e]; exact spec_getNum_size s a w hm h
  by_cases ha : a < 0
  · have e : numRes s a = (0, 0, 1) := by unfold numRes; rw [if_neg h, if_pos ha]
    rw [e]; exact spec_getNum_form s a w (by omega) ha
  obtain ⟨p, rfl⟩ := Int.eq_ofNat_of_zero_le (show 0 ≤ a by omega)
  exact spec_getNum_any s p w (by omega) _ rfl
end Go.Proofs.YtahccighonddaaaGreatDoor
