import Derived.Test.YtahccighonddaaaGreatDoorTextOut
import Derived.Test.YtahccighonddaaaGreatDoorJumps
import Derived.Test.YtahccighonddaaaGreatDoorScanMath
import Derived.WalkMore
import Derived.Laws.BitsAllLaws
namespace Go.Proofs.YtahccighonddaaaGreatDoor
open Go.RowKit
abbrev fault (c : Int) : Value := .iface 308 (.agg #[.int .i64 c])
theorem readBits_short (s : ByteArray) (p : Int) (w : World) (_hs : s.size ≤ 8000) (h : (s.size : Int) ≤ p) :
    Calls Tryz.prog 262 #[.string s,.int .i64 p] w fun e w' => e = .returned (.tuple #[.int .u64 0,.int .i64 0,fault 4]) ∧ w' = w := by
  go_enter Tryz.func262,Tryz.ntmps262
  go_wp2
  go_step3
  go_wp2
  go_step3
  go_wp2
  rw [Exit.noGoto_ret]
  go_ret3
  exact ⟨rfl,rfl⟩
def atLabel (s : ByteArray) (p : Nat) (R : Nat × Nat × Nat) (l : Nat) (a : Act) : Prop :=
  match l with
  | 0 => ∃ (k U : Nat) (b : Value) (u10 u11 u12 u13 u14 u15 u16 u17 u18 u19 u20 u21 u22 u23 u24 u25 u26 u27 u28 u29 u30 u31 u32 u33 u34 u35 u36 u37 u38 u39 u40 u41 u42 u43 u44 u45 u46 u47 u48 u49 u50 u51 u52 : Value),a = { tmps := (.string s :: .int .i64 ((p + k : Nat) : Int) :: undef :: undef :: .int .u64 0 :: .int .i64 0 :: .nilIface :: b :: .int .u64 U :: .int .i64 k :: u10 :: u11 :: u12 :: u13 :: u14 :: u15 :: u16 :: u17 :: u18 :: u19 :: u20 :: u21 :: u22 :: u23 :: u24 :: u25 :: u26 :: u27 :: u28 :: u29 :: u30 :: u31 :: u32 :: u33 :: u34 :: u35 :: u36 :: u37 :: u38 :: u39 :: u40 :: u41 :: u42 :: u43 :: u44 :: u45 :: u46 :: u47 :: u48 :: u49 :: u50 :: u51 :: u52 :: []).toArray,defers := [] } ∧
      k ≤ 9 ∧ p + k ≤ s.size ∧ U < 128 ^ k ∧ scan (s.data.toList.drop (p + k)) k U = R
  | 1 => ∃ (k U b : Nat) (u10 u11 u12 u13 u14 u15 u16 u17 u18 u19 u20 u21 u22 u23 u24 u25 u26 u27 u28 u29 u30 u31 u32 u33 u34 u35 u36 u37 u38 u39 u40 u41 u42 u43 u44 u45 u46 u47 u48 u49 u50 u51 u52 : Value),a = { tmps := (.string s :: .int .i64 ((p + k : Nat) : Int) :: undef :: undef :: .int .u64 0 :: .int .i64 0 :: .nilIface :: .int .u8 b :: .int .u64 U :: .int .i64 k :: u10 :: u11 :: u12 :: u13 :: u14 :: u15 :: u16 :: u17 :: u18 :: u19 :: u20 :: u21 :: u22 :: u23 :: u24 :: u25 :: u26 :: u27 :: u28 :: u29 :: u30 :: u31 :: u32 :: u33 :: u34 :: u35 :: u36 :: u37 :: u38 :: u39 :: u40 :: u41 :: u42 :: u43 :: u44 :: u45 :: u46 :: u47 :: u48 :: u49 :: u50 :: u51 :: u52 :: []).toArray,defers := [] } ∧
      1 ≤ k ∧ k ≤ 10 ∧ p + k ≤ s.size ∧ b < 256 ∧ R = (if k = 10 ∧ 1 < b then (0,0,3) else if 1 < k ∧ b = 0 then (0,0,3) else (U,k,0))
  | 2 => ∃ (v1 v7 v8 v9 u10 u11 u12 u13 u14 u15 u16 u17 u18 u19 u20 u21 u22 u23 u24 u25 u26 u27 u28 u29 u30 u31 u32 u33 u34 u35 u36 u37 u38 u39 u40 u41 u42 u43 u44 u45 u46 u47 u48 u49 u50 u51 u52 : Value),a = { tmps := (.string s :: v1 :: undef :: undef :: .int .u64 0 :: .int .i64 0 :: .nilIface :: v7 :: v8 :: v9 :: u10 :: u11 :: u12 :: u13 :: u14 :: u15 :: u16 :: u17 :: u18 :: u19 :: u20 :: u21 :: u22 :: u23 :: u24 :: u25 :: u26 :: u27 :: u28 :: u29 :: u30 :: u31 :: u32 :: u33 :: u34 :: u35 :: u36 :: u37 :: u38 :: u39 :: u40 :: u41 :: u42 :: u43 :: u44 :: u45 :: u46 :: u47 :: u48 :: u49 :: u50 :: u51 :: u52 :: []).toArray,defers := [] } ∧ R = (0,0,3)
  | _ => False
def labelLeft (l : Nat) (a : Act) : Nat :=
  match l with
  | 0 => 12 - (intOf (a.tmps.getD 9 undef)).toNat
  | 1 => 1
  | _ => 0
def bitsEnd (p : Nat) (R : Nat × Nat × Nat) : Value :=
  if R.2.2 = 0 then .tuple #[.int .u64 R.1,.int .i64 ((p + R.2.1 : Nat) : Int),.nilIface] else .tuple #[.int .u64 0,.int .i64 0,fault R.2.2]
theorem drop_cons_at (s : ByteArray) (q : Nat) (h : q < s.size) : s.data.toList.drop q = s[q] :: s.data.toList.drop (q + 1) := by
  rw [List.drop_eq_getElem_cons (by simpa using h)]; rfl
theorem or_step (U x k : Nat) (hU : U < 128 ^ k) (hk : k ≤ 9) : ∃ V : Nat,bits .or .u64 (U : Int) (IntKind.u64.wrap ((x : Int) % 128 * 2 ^ (7 * k))) = (V : Int) ∧ Hid (k ≤ 8 ∨ x ≤ 1 → V = U + x % 128 * 128 ^ k) := by
  have hp : (2 : Nat) ^ (7 * k) = 128 ^ k := by rw [Nat.pow_mul]
  have hle := pow_le hk
  have e : (x : Int) % 128 * 2 ^ (7 * k) = ((x % 128 * 128 ^ k : Nat) : Int) := by
    rw [← hp]; simp
  refine ⟨U ||| (x % 128 * 128 ^ k % 18446744073709551616),?_,?_⟩
  · rw [e,IntKind.wrap_u64]
    have h := u64_or_nat U (x % 128 * 128 ^ k % 18446744073709551616) (by omega) (Nat.mod_lt _ (by omega))
    rw [← h]
    rfl
  · intro hc
    have hlt : x % 128 * 128 ^ k < 18446744073709551616 := by
      rcases hc with hc | hc
      · have h8 : 128 ^ k ≤ 128 ^ 8 := Nat.pow_le_pow_right (n := 128) (by omega) hc
        have h8' : (128 : Nat) ^ 8 = 72057594037927936 := by decide
        have : x % 128 * 128 ^ k ≤ 127 * 128 ^ 8 := Nat.mul_le_mul (by omega) h8
        omega
      · have : x % 128 * 128 ^ k ≤ 1 * 128 ^ k := Nat.mul_le_mul_right _ (by omega)
        omega
    rw [Nat.mod_eq_of_lt hlt,Nat.or_comm]
    have h := nat_join (7 * k) (x % 128 * 128 ^ k) U (by rw [hp]; exact Nat.mul_mod_left _ _) (by rw [hp]; exact hU)
    omega
theorem bitsEnd_bad (p : Nat) (c : Nat) (h : c ≠ 0) : bitsEnd p (0,0,c) = .tuple #[.int .u64 0,.int .i64 0,fault c] := by
  simp [bitsEnd,h]
theorem bitsEnd_good (p U k : Nat) : bitsEnd p (U,k,0) = .tuple #[.int .u64 U,.int .i64 ((p + k : Nat) : Int),.nilIface] := by
  simp [bitsEnd]
theorem and127 (x : Nat) (h : x < 256) : bits .and .u8 (x : Int) 127 = ((x % 128 : Nat) : Int) := by
  have h := u8_and_nat x 127 h (by omega)
  rw [nat_mask7] at h
  exact h
theorem scan_atLast {b : UInt8} {r : List UInt8} {k U V : Nat} {R : Nat × Nat × Nat} (h : scan (b :: r) k U = R) (hb : b.toNat < 128) (hk : k ≤ 9) (hV : k ≤ 8 ∨ b.toNat ≤ 1 → V = U + b.toNat % 128 * 128 ^ k) :
    R = (if k + 1 = 10 ∧ 1 < b.toNat then (0,0,3) else if 1 < k + 1 ∧ b.toNat = 0 then (0,0,3) else (V,k + 1,0)) := by
  rw [← h,scan,if_pos (.inl hb)]
  by_cases c1 : k = 9 ∧ 1 < b.toNat
  · rw [if_pos c1,if_pos (show k + 1 = 10 ∧ 1 < b.toNat by omega)]
  · rw [if_neg c1,if_neg (show ¬ (k + 1 = 10 ∧ 1 < b.toNat) by omega)]
    by_cases c2 : 0 < k ∧ b.toNat = 0
    · rw [if_pos c2,if_pos (show 1 < k + 1 ∧ b.toNat = 0 by omega)]
    · rw [if_neg c2,if_neg (show ¬ (1 < k + 1 ∧ b.toNat = 0) by omega),hV (by omega),Nat.mod_eq_of_lt hb]
theorem scan_atMore {b : UInt8} {r : List UInt8} {k U V : Nat} {R : Nat × Nat × Nat} (h : scan (b :: r) k U = R) (hb : ¬ b.toNat < 128) (hk : k ≤ 8) (hV : k ≤ 8 ∨ b.toNat ≤ 1 → V = U + b.toNat % 128 * 128 ^ k) (hU : U < 128 ^ k) :
    V < 128 ^ (k + 1) ∧ scan r (k + 1) V = R := by
  have hlt := b.toNat_lt
  have e : b.toNat % 128 = b.toNat - 128 := by omega
  rw [scan_more hb (by omega)] at h
  have hV' := hV (.inl hk)
  rw [e] at hV'
  subst hV'
  exact ⟨pow_step hU (by omega),h⟩
theorem or_zero (x : Nat) : bits .or .u64 0 ((x : Int) % 128) = ((x % 128 : Nat) : Int) := by
  have h := u64_or_nat 0 (x % 128) (by omega) (by omega)
  rw [Nat.zero_or] at h
  rw [← h]
  rfl
theorem ret_tup {a b : Value} (h : a = b) : Ending.returned a = .returned b := by rw [h]
set_option maxRecDepth 100000 in
set_option maxHeartbeats 4000000 in
theorem readBits_any (s : ByteArray) (p : Nat) (w : World) (hs : s.size ≤ 8000) (hp : p < s.size) (R : Nat × Nat × Nat) (hR : R = scan (s.data.toList.drop p) 0 0) :
    Calls Tryz.prog 262 #[.string s,.int .i64 p] w fun e w' => e = .returned (bitsEnd p R) ∧ w' = w := by
  have HR : Hid (R = scan (s.data.toList.drop p) 0 0) := hR
  clear hR
  go_enter Tryz.func262,Tryz.ntmps262
  go_wp2
  refine wp_scope_labels (findLabel _) (fun l a w' => w' = w ∧ atLabel s p R l a) (fun l a _ => labelLeft l a) (fun _ _ h => h) ?_ ?_
  · have hand := and127 s[p].toNat s[p].toNat_lt
    have hlt := s[p].toNat_lt
    have hor := or_zero s[p].toNat
    have HSC : Hid (scan (s[p] :: s.data.toList.drop (p + 1)) 0 0 = R) := by
      have h := HR.out.symm
      rw [drop_cons_at s p hp] at h
      exact h
    clear HR
    by_cases hb : s[p].toNat < 128
    · go_wp2
      go_step3
      go_wp2
      go_step3
      refine ⟨rfl,rfl,1,s[p].toNat % 128,s[p].toNat,_,_,_,_,_,_,_,_,_,_,_,_,_,_,_,_,_,_,_,_,_,_,_,_,_,_,_,_,_,_,_,_,_,_,_,_,_,_,_,_,_,_,_,rfl,by omega,by omega,by omega,hlt,?_⟩
      exact scan_atLast HSC.out hb (by omega) (fun _ => by omega)
    · go_wp2
      go_step3
      go_wp2
      go_step3
      have h2 := scan_atMore (V := s[p].toNat % 128) HSC.out hb (by omega) (fun _ => by omega) (by decide)
      exact ⟨rfl,rfl,1,s[p].toNat % 128,_,_,_,_,_,_,_,_,_,_,_,_,_,_,_,_,_,_,_,_,_,_,_,_,_,_,_,_,_,_,_,_,_,_,_,_,_,_,_,_,_,_,_,_,rfl,by omega,by omega,h2.1,h2.2⟩
  · intro l r a w' hr hJ
    obtain ⟨rfl,hJ⟩ := hJ
    rcases l with _ | _ | _ | n
    · obtain ⟨k,U,b,u10,u11,u12,u13,u14,u15,u16,u17,u18,u19,u20,u21,u22,u23,u24,u25,u26,u27,u28,u29,u30,u31,u32,u33,u34,u35,u36,u37,u38,u39,u40,u41,u42,u43,u44,u45,u46,u47,u48,u49,u50,u51,u52,rfl,hk,hpk,hU,hsc⟩ := hJ
      simp [findLabel] at hr
      subst hr
      have HSC : Hid (scan (s.data.toList.drop (p + k)) k U = R) := hsc
      have HU : Hid (U < 128 ^ k) := hU
      obtain ⟨V,hor,hV⟩ := or_step U (s[p + k]!.toNat) k hU hk
      clear hsc hU
      by_cases hk2 : p + k < s.size
      · have hand := and127 s[p + k].toNat s[p + k].toNat_lt
        have hlt := s[p + k].toNat_lt
        have hbang : s[p + k]! = s[p + k] := getElem!_pos s (p + k) hk2
        rw [hbang] at hor hV
        clear hbang
        by_cases hb : s[p + k].toNat < 128
        · go_wp2
          go_step3
          refine ⟨rfl,⟨rfl,k + 1,V,s[p + k].toNat,_,_,_,_,_,_,_,_,_,_,_,_,_,_,_,_,_,_,_,_,_,_,_,_,_,_,_,_,_,_,_,_,_,_,_,_,_,_,_,_,_,_,_,rfl,by omega,by omega,by omega,hlt,?_⟩,?_⟩
          · have h := HSC.out
            rw [drop_cons_at s (p + k) hk2] at h
            exact scan_atLast h hb hk hV.out
          · simp [labelLeft,intOf]; omega
        · by_cases hk9 : k = 9
          · have hk9b : ((k : Int) + 1 == 10) = true := by rw [beq_iff_eq]; omega
            have HK : Hid (k = 9) := hk9
            clear hk9
            go_wp2
            go_step3
            refine ⟨rfl,⟨rfl,k + 1,V,s[p + k].toNat,_,_,_,_,_,_,_,_,_,_,_,_,_,_,_,_,_,_,_,_,_,_,_,_,_,_,_,_,_,_,_,_,_,_,_,_,_,_,_,_,_,_,_,rfl,by omega,by omega,by omega,hlt,?_⟩,?_⟩
            · have h := HSC.out
              have e := HK.out
              rw [drop_cons_at s (p + k) hk2] at h
              rw [if_pos (by omega)]
              subst e
              rw [scan_wrong9 (by omega)] at h
              exact h.symm
            · simp [labelLeft,intOf]; omega
          · have hk9b : ((k : Int) + 1 == 10) = false := by rw [beq_eq_false_iff_ne]; omega
            go_wp2
            go_step3
            have h := HSC.out
            rw [drop_cons_at s (p + k) hk2] at h
            have h2 := scan_atMore h hb (by omega) hV.out HU.out
            refine ⟨rfl,⟨rfl,k + 1,V,_,_,_,_,_,_,_,_,_,_,_,_,_,_,_,_,_,_,_,_,_,_,_,_,_,_,_,_,_,_,_,_,_,_,_,_,_,_,_,_,_,_,_,_,rfl,by omega,by omega,h2.1,h2.2⟩,?_⟩
            simp [labelLeft,intOf]; omega
      · have HE : Hid (R = (0,0,4)) := by
          have h := HSC.out
          rw [List.drop_of_length_le (by simp; omega)] at h
          exact h.symm
        have hge : (s.size : Int) ≤ (p : Int) + (k : Int) := by omega
        clear hor
        go_wp2
        simp only [exitJumps]
        go_ret3
        exact ⟨ret_tup (by rw [HE.out,bitsEnd_bad _ _ (by omega)]; rfl),rfl⟩
    · obtain ⟨k,U,b,u10,u11,u12,u13,u14,u15,u16,u17,u18,u19,u20,u21,u22,u23,u24,u25,u26,u27,u28,u29,u30,u31,u32,u33,u34,u35,u36,u37,u38,u39,u40,u41,u42,u43,u44,u45,u46,u47,u48,u49,u50,u51,u52,rfl,hk1,hk,hpk,hb,hRe⟩ := hJ
      simp [findLabel] at hr
      subst hr
      have HRE : Hid (R = (if k = 10 ∧ 1 < b then (0,0,3) else if 1 < k ∧ b = 0 then (0,0,3) else (U,k,0))) := hRe
      clear hRe
      by_cases c1 : k = 10 ∧ 1 < b
      · obtain ⟨rfl,c1⟩ := c1
        have HE : Hid (R = (0,0,3)) := HRE.out.trans (if_pos ⟨rfl,c1⟩)
        go_wp2
        go_step3
        refine ⟨rfl,⟨rfl,_,_,_,_,_,_,_,_,_,_,_,_,_,_,_,_,_,_,_,_,_,_,_,_,_,_,_,_,_,_,_,_,_,_,_,_,_,_,_,_,_,_,_,_,_,_,_,rfl,HE.out⟩,?_⟩
        simp [labelLeft]
      · by_cases c2 : 1 < k ∧ b = 0
        · obtain ⟨c2,rfl⟩ := c2
          have HE : Hid (R = (0,0,3)) := HRE.out.trans ((if_neg c1).trans (if_pos ⟨c2,rfl⟩))
          by_cases c3 : k = 10
          · subst c3
            go_wp2
            go_step3
            refine ⟨rfl,⟨rfl,_,_,_,_,_,_,_,_,_,_,_,_,_,_,_,_,_,_,_,_,_,_,_,_,_,_,_,_,_,_,_,_,_,_,_,_,_,_,_,_,_,_,_,_,_,_,_,rfl,HE.out⟩,?_⟩
            simp [labelLeft]
          · have c3b : ((k : Int) == 10) = false := by rw [beq_eq_false_iff_ne]; omega
            go_wp2
            go_step3
            refine ⟨rfl,⟨rfl,_,_,_,_,_,_,_,_,_,_,_,_,_,_,_,_,_,_,_,_,_,_,_,_,_,_,_,_,_,_,_,_,_,_,_,_,_,_,_,_,_,_,_,_,_,_,_,rfl,HE.out⟩,?_⟩
            simp [labelLeft]
        · have HE : Hid (R = (U,k,0)) := HRE.out.trans ((if_neg c1).trans (if_neg c2))
          by_cases c3 : k = 10
          · subst c3
            have c4 : b = 1 := by omega
            subst c4
            go_wp2
            simp only [exitJumps]
            go_ret3
            exact ⟨ret_tup (by rw [HE.out,bitsEnd_good]; rfl),rfl⟩
          · have c3b : ((k : Int) == 10) = false := by rw [beq_eq_false_iff_ne]; omega
            by_cases c5 : 1 < k
            · have c6 : ((b : Int) == 0) = false := by rw [beq_eq_false_iff_ne]; omega
              clear c1 c2
              go_wp2
              simp only [exitJumps]
              go_ret3
              exact ⟨ret_tup (by rw [HE.out,bitsEnd_good]; rfl),rfl⟩
            · clear c1 c2
              go_wp2
              simp only [exitJumps]
              go_ret3
              exact ⟨ret_tup (by rw [HE.out,bitsEnd_good]; rfl),rfl⟩
    · obtain ⟨v1,v7,v8,v9,u10,u11,u12,u13,u14,u15,u16,u17,u18,u19,u20,u21,u22,u23,u24,u25,u26,u27,u28,u29,u30,u31,u32,u33,u34,u35,u36,u37,u38,u39,u40,u41,u42,u43,u44,u45,u46,u47,u48,u49,u50,u51,u52,rfl,hRe⟩ := hJ
      simp [findLabel] at hr
      subst hr
      have HRE : Hid (R = (0,0,3)) := hRe
      clear hRe
      go_wp2
      simp only [exitJumps]
      go_ret3
      exact ⟨ret_tup (by rw [HRE.out,bitsEnd_bad _ _ (by omega)]; rfl),rfl⟩
    · exact hJ.elim
end Go.Proofs.YtahccighonddaaaGreatDoor
