import Derived.Test.YtahccighonddaaaGreatDoorReadBits
import Derived.Laws.Bits64
namespace Go.Proofs.YtahccighonddaaaGreatDoor
open Go.RowKit
theorem scan_lt : ∀ (l : List UInt8) (k U : Nat),U < 128 ^ k → k ≤ 9 → (scan l k U).1 < 18446744073709551616 ∧ (scan l k U).2.1 ≤ l.length + k ∧ (scan l k U).2.2 ≤ 4
  | [],_,_,_,_ => by simp [scan]
  | b :: r,k,U,hU,hk => by
    have hlt := b.toNat_lt
    have hp := pow_le hk
    by_cases h : b.toNat < 128 ∨ k = 9
    · rw [scan,if_pos h]
      split
      · simp
      · split
        · simp
        · rename_i c1 c2
          refine ⟨?_,by simp; omega,by simp⟩
          show U + b.toNat * 128 ^ k < _
          by_cases h9 : k = 9
          · subst h9
            have : b.toNat * 128 ^ 9 ≤ 1 * 128 ^ 9 := Nat.mul_le_mul_right _ (by omega)
            omega
          · have h8 : 128 ^ k ≤ 128 ^ 8 := Nat.pow_le_pow_right (n := 128) (by omega) (by omega)
            have h8' : (128 : Nat) ^ 8 = 72057594037927936 := by decide
            have : b.toNat * 128 ^ k ≤ 127 * 128 ^ 8 := Nat.mul_le_mul (by omega) h8
            omega
    · rw [scan_more (by omega) (by omega)]
      have h := scan_lt r (k + 1) (U + (b.toNat - 128) * 128 ^ k) (pow_step hU (by omega)) (by omega)
      exact ⟨h.1,by have := h.2.1; simp; omega,h.2.2⟩
theorem wrap_half (u : Nat) (h : u < 18446744073709551616) : IntKind.u64.wrap ((u : Int) / 2) = (u : Int) / 2 := by
  rw [IntKind.wrap_u64]
  omega
theorem i64_half (u : Nat) (h : u < 18446744073709551616) : IntKind.i64.wrap ((u : Int) / 2) = (u : Int) / 2 := by
  simp [IntKind.wrap,IntKind.bits,IntKind.signed]; omega
theorem wrap_neg (u : Nat) (h : u < 18446744073709551616) : wrap64 (wrap64 (-((u : Int) / 2)) - 1) = -((u : Int) / 2) - 1 := by
  unfold wrap64
  omega
theorem impl_unfoldSign (u : Nat) (w : World) (h : u < 18446744073709551616) :
    Calls Tryz.prog 263 #[.int .u64 u] w fun e w' => e = .returned (.int .i64 (unfold64 u)) ∧ w' = w := by
  have hw := wrap_half u h
  have hw2 := i64_half u h
  have H : Hid (u < 18446744073709551616) := h
  clear h
  by_cases he : u % 2 = 0
  · have heb : ((u : Int) % 2 == 0) = true := by rw [beq_iff_eq]; omega
    have E : Hid ((u : Int) / 2 = unfold64 u) := by show _ = _; rw [unfold64,if_pos he]; omega
    clear he
    go_enter Tryz.func263,Tryz.ntmps263
    go_wp2
    go_ret
    exact ⟨ret_int E.out,rfl⟩
  · have heb : ((u : Int) % 2 == 0) = false := by rw [beq_eq_false_iff_ne]; omega
    have E : Hid (-((u : Int) / 2) - 1 = unfold64 u) := by show _ = _; rw [unfold64,if_neg he]; omega
    clear he
    go_enter Tryz.func263,Tryz.ntmps263
    go_wp2
    go_ret
    exact ⟨ret_int ((wrap_neg u H.out).trans E.out),rfl⟩
theorem placeFault_size (s : ByteArray) (a : Int) (w : World) (hm : s.size ≤ maxLen) (h : 8000 < s.size) :
    Calls Tryz.prog 261 #[.string s,.int .i64 a] w fun e w' => e = .returned (fault 2) ∧ w' = w := by
  unfold maxLen at hm
  go_enter Tryz.func261,Tryz.ntmps261
  go_wp2
  go_ret
  exact ⟨rfl,rfl⟩
theorem placeFault_form (s : ByteArray) (a : Int) (w : World) (h : s.size ≤ 8000) (ha : a < 0) :
    Calls Tryz.prog 261 #[.string s,.int .i64 a] w fun e w' => e = .returned (fault 1) ∧ w' = w := by
  go_enter Tryz.func261,Tryz.ntmps261
  go_wp2
  go_ret
  exact ⟨rfl,rfl⟩
theorem placeFault_ok (s : ByteArray) (a : Int) (w : World) (h : s.size ≤ 8000) (ha : 0 ≤ a) :
    Calls Tryz.prog 261 #[.string s,.int .i64 a] w fun e w' => e = .returned .nilIface ∧ w' = w := by
  go_enter Tryz.func261,Tryz.ntmps261
  go_wp2
  go_ret
  exact ⟨rfl,rfl⟩
def errOf (c : Nat) : Value := if c = 0 then .nilIface else fault c
def numRes (s : ByteArray) (a : Int) : Int × Int × Nat :=
  if 8000 < s.size then (0,0,2) else if a < 0 then (0,0,1) else
    let R := scan (s.data.toList.drop a.toNat) 0 0
    if R.2.2 = 0 then (unfold64 R.1,((a.toNat + R.2.1 : Nat) : Int),0) else (0,0,R.2.2)
abbrev numTup (r : Int × Int × Nat) : Value := .tuple #[.int .i64 r.1,.int .i64 r.2.1,errOf r.2.2]
theorem readNum_size (s : ByteArray) (a : Int) (w : World) (hm : s.size ≤ maxLen) (h : 8000 < s.size) :
    Calls Tryz.prog 256 #[.string s,.int .i64 a] w fun e w' => e = .returned (numTup (0,0,2)) ∧ w' = w := by
  have HM : Hid (s.size ≤ maxLen) := hm
  clear hm
  go_enter Tryz.func256,Tryz.ntmps256
  go_wp2_with (first | (go_at_call 261; refine (placeFault_size _ _ _ HM.out h).mono ?_; rintro e w' ⟨rfl,rfl⟩))
  go_ret3
  exact ⟨rfl,rfl⟩
theorem readNum_form (s : ByteArray) (a : Int) (w : World) (h : s.size ≤ 8000) (ha : a < 0) :
    Calls Tryz.prog 256 #[.string s,.int .i64 a] w fun e w' => e = .returned (numTup (0,0,1)) ∧ w' = w := by
  go_enter Tryz.func256,Tryz.ntmps256
  go_wp2_with (first | (go_at_call 261; refine (placeFault_form _ _ _ h ha).mono ?_; rintro e w' ⟨rfl,rfl⟩))
  go_ret3
  exact ⟨rfl,rfl⟩
theorem readNum_bad (s : ByteArray) (a : Int) (c : Nat) (w : World) (h : s.size ≤ 8000) (ha : 0 ≤ a) (hc : c ≠ 0)
    (H : ∀ w,Calls Tryz.prog 262 #[.string s,.int .i64 a] w fun e w' => e = .returned (.tuple #[.int .u64 0,.int .i64 0,fault c]) ∧ w' = w) :
    Calls Tryz.prog 256 #[.string s,.int .i64 a] w fun e w' => e = .returned (numTup (0,0,c)) ∧ w' = w := by
  have HH : Hid _ := H
  clear H
  have HE : Hid (fault c = errOf c) := by show _ = _; rw [errOf,if_neg hc]
  clear hc
  go_enter Tryz.func256,Tryz.ntmps256
  go_wp2_with (first | (go_at_call 261; refine (placeFault_ok _ _ _ h ha).mono ?_; rintro e w' ⟨rfl,rfl⟩) | (go_at_call 262; refine (HH.out _).mono ?_; rintro e w' ⟨rfl,rfl⟩))
  go_ret3
  exact ⟨ret_tup (by simp only [numTup]; rw [← HE.out]; rfl),rfl⟩
theorem readNum_good (s : ByteArray) (a : Int) (u k : Nat) (w : World) (h : s.size ≤ 8000) (ha : 0 ≤ a) (hu : u < 18446744073709551616)
    (H : ∀ w,Calls Tryz.prog 262 #[.string s,.int .i64 a] w fun e w' => e = .returned (.tuple #[.int .u64 u,.int .i64 k,.nilIface]) ∧ w' = w) :
    Calls Tryz.prog 256 #[.string s,.int .i64 a] w fun e w' => e = .returned (numTup (unfold64 u,k,0)) ∧ w' = w := by
  have HH : Hid _ := H
  clear H
  have HU : Hid (u < 18446744073709551616) := hu
  clear hu
  go_enter Tryz.func256,Tryz.ntmps256
  go_wp2_with (first | (go_at_call 261; refine (placeFault_ok _ _ _ h ha).mono ?_; rintro e w' ⟨rfl,rfl⟩) | (go_at_call 262; refine (HH.out _).mono ?_; rintro e w' ⟨rfl,rfl⟩) | (go_at_call 263; refine (impl_unfoldSign _ _ HU.out).mono ?_; rintro e w' ⟨rfl,rfl⟩))
  go_ret3
  exact ⟨rfl,rfl⟩
theorem impl_readNum (s : ByteArray) (a : Int) (w : World) (hm : s.size ≤ maxLen) :
    Calls Tryz.prog 256 #[.string s,.int .i64 a] w fun e w' => e = .returned (numTup (numRes s a)) ∧ w' = w := by
  unfold numRes
  by_cases h : 8000 < s.size
  · rw [if_pos h]; exact readNum_size s a w hm h
  rw [if_neg h]
  by_cases ha : a < 0
  · rw [if_pos ha]; exact readNum_form s a w (by omega) ha
  rw [if_neg ha]
  obtain ⟨p,rfl⟩ := Int.eq_ofNat_of_zero_le (show 0 ≤ a by omega)
  rw [Int.toNat_natCast]
  have hb := scan_lt (s.data.toList.drop p) 0 0 (by decide) (by omega)
  by_cases hp : p < s.size
  · have H := fun w => readBits_any s p w (by omega) hp _ rfl
    generalize scan (s.data.toList.drop p) 0 0 = R at hb H ⊢
    obtain ⟨U,k,c⟩ := R
    by_cases hc : c = 0
    · subst hc
      rw [bitsEnd_good] at H
      exact readNum_good s p U (p + k) w (by omega) (by omega) hb.1 H
    · have e : (fun w => bitsEnd p (U,k,c)) = fun (w : World) => Value.tuple #[.int .u64 0,.int .i64 0,fault c] := by
        funext w; simp [bitsEnd,hc]
      simp only [if_neg hc]
      refine readNum_bad s p c w (by omega) (by omega) hc (fun w => ?_)
      have := H w
      rw [show bitsEnd p (U,k,c) = .tuple #[.int .u64 0,.int .i64 0,fault c] from congrFun e w] at this
      exact this
  · have e : s.data.toList.drop p = [] := List.drop_of_length_le (by simp; omega)
    rw [e]
    exact readNum_bad s p 4 w (by omega) (by omega) (by omega) (fun w => readBits_short s p w (by omega) (by omega))
abbrev numOut (r : Int × Int × Nat) : Value := .agg #[.int .i64 r.1,.int .i64 r.2.1,.int .i64 (r.2.2 : Int)]
theorem spec_getNum_size (s : ByteArray) (a : Int) (w : World) (hm : s.size ≤ maxLen) (h : 8000 < s.size) :
    Calls Tryz.prog 169 #[.string s,.int .i64 a] w fun e w' => e = .returned (numOut (0,0,2)) ∧ Below w.heap.size w w' := by
  unfold maxLen at hm
  go_enter Tryz.func169,Tryz.ntmps169
  go_wp2
  exact bodyPost_ret (v := numOut (0,0,2)) (by simp [results,Tryz.results169,go_sem]) rfl ⟨rfl,(Below.refl _ _).alloc (Nat.le_refl _) _⟩
theorem spec_getNum_form (s : ByteArray) (a : Int) (w : World) (h : s.size ≤ 8000) (ha : a < 0) :
    Calls Tryz.prog 169 #[.string s,.int .i64 a] w fun e w' => e = .returned (numOut (0,0,1)) ∧ Below w.heap.size w w' := by
  go_enter Tryz.func169,Tryz.ntmps169
  go_wp2
  exact bodyPost_ret (v := numOut (0,0,1)) (by simp [results,Tryz.results169,go_sem]) rfl ⟨rfl,(Below.refl _ _).alloc (Nat.le_refl _) _⟩
theorem numRes_bad {s : ByteArray} {p c : Nat} (h : s.size ≤ 8000) (hc : c ≠ 0) (hR : scan (s.data.toList.drop p) 0 0 = (0,0,c)) : numRes s p = (0,0,c) := by
  unfold numRes
  rw [if_neg (by omega),if_neg (by omega),Int.toNat_natCast,hR]
  simp [hc]
theorem numRes_good {s : ByteArray} {p U k : Nat} (h : s.size ≤ 8000) (hR : scan (s.data.toList.drop p) 0 0 = (U,k,0)) : numRes s p = (unfold64 U,((p + k : Nat) : Int),0) := by
  unfold numRes
  rw [if_neg (by omega),if_neg (by omega),Int.toNat_natCast,hR]
  simp
theorem scan_wrong9' {b : UInt8} {r : List UInt8} {k U : Nat} (hk : k = 9) (h : 1 < b.toNat) : scan (b :: r) k U = (0,0,3) := by
  subst hk; exact scan_wrong9 h
theorem scan_last' {b : UInt8} {r : List UInt8} {k U : Nat} (h : b.toNat < 128) (h9 : k = 9 → b.toNat ≤ 1) (h0 : ¬ (0 < k ∧ b.toNat = 0)) : scan (b :: r) k U = (U + b.toNat % 128 * 128 ^ k,k + 1,0) := by
  rw [scan_last h h9 h0,Nat.mod_eq_of_lt h]
theorem add_lt {U x k : Nat} (hU : U < 128 ^ k) (hk : k ≤ 9) (hc : k ≤ 8 ∨ x ≤ 1) : U + x % 128 * 128 ^ k < 18446744073709551616 := by
  have hle := pow_le hk
  rcases hc with hc | hc
  · have h8 : 128 ^ k ≤ 128 ^ 8 := Nat.pow_le_pow_right (n := 128) (by omega) hc
    have h8' : (128 : Nat) ^ 8 = 72057594037927936 := by decide
    have : x % 128 * 128 ^ k ≤ 127 * 128 ^ 8 := Nat.mul_le_mul (by omega) h8
    omega
  · have : x % 128 * 128 ^ k ≤ 1 * 128 ^ k := Nat.mul_le_mul_right _ (by omega)
    omega
theorem add_step (U x k : Nat) (hU : U < 128 ^ k) (hk : k ≤ 9) (hc : k ≤ 8 ∨ x ≤ 1) :
    IntKind.u64.wrap ((U : Int) + IntKind.u64.wrap ((x : Int) % 128 * 2 ^ (7 * k))) = ((U + x % 128 * 128 ^ k : Nat) : Int) := by
  have hp : (2 : Nat) ^ (7 * k) = 128 ^ k := by rw [Nat.pow_mul]
  have hlt := add_lt hU hk hc
  have e : (x : Int) % 128 * 2 ^ (7 * k) = ((x % 128 * 128 ^ k : Nat) : Int) := by
    rw [← hp]; simp
  rw [e,IntKind.wrap_u64,IntKind.wrap_u64]
  generalize x % 128 * 128 ^ k = y at hlt
  omega
theorem fold_back (V : Nat) (h : V < 18446744073709551616) : (((V : Int) % 2 == 1) = false ∧ Hid ((V : Int) / 2 = unfold64 V)) ∨ (((V : Int) % 2 == 1) = true ∧ Hid (wrap64 (wrap64 (-((V : Int) / 2)) - 1) = unfold64 V)) := by
  by_cases he : V % 2 = 0
  · exact .inl ⟨by rw [beq_eq_false_iff_ne]; omega,by show _ = _; rw [unfold64,if_pos he]; omega⟩
  · exact .inr ⟨by rw [beq_iff_eq]; omega,by show _ = _; rw [wrap_neg V h,unfold64,if_neg he]; omega⟩
theorem num_end {r : Int × Int × Nat} {n n' a' : Int} {q : Nat} (h : r = (n,((q : Nat) : Int),0)) (e1 : n' = n) (e2 : a' = ((q : Nat) : Int)) :
    Ending.returned (.agg #[.int .i64 n',.int .i64 a',.int .i64 0]) = .returned (numOut r) := by
  subst h e1 e2
  rfl
set_option maxRecDepth 100000 in
set_option maxHeartbeats 4000000 in
theorem spec_getNum_any (s : ByteArray) (p : Nat) (w : World) (h : s.size ≤ 8000) (r : Int × Int × Nat) (hr : r = numRes s p) :
    Calls Tryz.prog 169 #[.string s,.int .i64 p] w fun e w' => e = .returned (numOut r) ∧ Below w.heap.size w w' := by
  have HR : Hid (r = numRes s p) := hr
  clear hr
  go_enter Tryz.func169,Tryz.ntmps169
  go_wp2
  go_loop [5,6,7,8] (fun u i _ _ => ∃ (k U : Nat),k ≤ 9 ∧ i = .int .i64 k ∧ u = .int .u64 U ∧ Hid (U < 128 ^ k) ∧ Hid (scan (s.data.toList.drop (p + k)) k U = scan (s.data.toList.drop p) 0 0)) (fun _ i _ _ => 10 - (intOf i).toNat)
  case atStart => exact ⟨0,0,by omega,rfl,rfl,by show (0 : Nat) < 128 ^ 0; decide,rfl⟩
  case round =>
    obtain ⟨k,U,hk,rfl,rfl,hU,hsc⟩ := hrel
    by_cases hk2 : p + k < s.size
    · have hlt := s[p + k].toNat_lt
      have HS : Hid (scan (s[p + k] :: s.data.toList.drop (p + k + 1)) k U = scan (s.data.toList.drop p) 0 0) := by
        have h := hsc.out
        rw [drop_cons_at s (p + k) hk2] at h
        exact h
      clear hsc
      by_cases hb : s[p + k].toNat < 128
      · by_cases c1 : k = 9 ∧ 1 < s[p + k].toNat
        · have HE : Hid (r = (0,0,3)) := HR.out.trans (numRes_bad h (by omega) ((HS.out.symm).trans (scan_wrong9' c1.1 c1.2)))
          have hk9b : ((k : Int) == 9) = true := by rw [beq_iff_eq]; omega
          have c1i : (1 : Int) < (s[p + k].toNat : Int) := by omega
          clear c1
          go_wp2
          exact bodyPost_ret (v := numOut (0,0,3)) (by simp [results,Tryz.results169,go_sem]) rfl ⟨by rw [HE.out],(Below.refl _ _).alloc (Nat.le_refl _) _⟩
        · have hst := add_step U s[p + k].toNat k hU.out hk (by omega)
          have hVlt : Hid (U + s[p + k].toNat % 128 * 128 ^ k < 18446744073709551616) := add_lt hU.out hk (by omega)
          by_cases c2 : 0 < k ∧ s[p + k].toNat = 0
          · have HE : Hid (r = (0,0,3)) := HR.out.trans (numRes_bad h (by omega) ((HS.out.symm).trans (scan_wrong0 c2.2 c2.1)))
            have c2b : ((s[p + k].toNat : Int) == 0) = true := by rw [beq_iff_eq]; omega
            have c2c : (s[p + k].toNat : Int) ≤ 1 := by omega
            obtain ⟨c2k,_⟩ := c2
            by_cases hk9 : k = 9
            · have hk9b : ((k : Int) == 9) = true := by rw [beq_iff_eq]; omega
              have HK : Hid (k = 9) := hk9
              clear hk9 c1 hst
              go_wp2
              exact bodyPost_ret (v := numOut (0,0,3)) (by simp [results,Tryz.results169,go_sem]) rfl ⟨by rw [HE.out],(Below.refl _ _).alloc (Nat.le_refl _) _⟩
            · have hk9b : ((k : Int) == 9) = false := by rw [beq_eq_false_iff_ne]; omega
              clear c1 hst
              go_wp2
              exact bodyPost_ret (v := numOut (0,0,3)) (by simp [results,Tryz.results169,go_sem]) rfl ⟨by rw [HE.out],(Below.refl _ _).alloc (Nat.le_refl _) _⟩
          · have HE : Hid (r = (unfold64 (U + s[p + k].toNat % 128 * 128 ^ k),((p + (k + 1) : Nat) : Int),0)) :=
              HR.out.trans (numRes_good h ((HS.out.symm).trans (scan_last' hb (by omega) c2)))
            generalize U + s[p + k].toNat % 128 * 128 ^ k = V at hst hVlt HE
            have hw := wrap_half V hVlt.out
            have hw2 := i64_half V hVlt.out
            by_cases c3 : s[p + k].toNat = 0
            · have c3b : ((s[p + k].toNat : Int) == 0) = true := by rw [beq_iff_eq]; omega
              have c4 : (k : Int) ≤ 0 := by omega
              have hk9b : ((k : Int) == 9) = false := by rw [beq_eq_false_iff_ne]; omega
              clear c1 c2 c3
              rcases fold_back V hVlt.out with ⟨c6,E1⟩ | ⟨c6,E1⟩
              · go_wp2
                exact bodyPost_ret (v := .agg #[.int .i64 ((V : Int) / 2),.int .i64 ((p : Int) + (k : Int) + 1),.int .i64 0]) (by simp [results,Tryz.results169,go_sem]) rfl ⟨num_end HE.out E1.out rfl,(Below.refl _ _).alloc (Nat.le_refl _) _⟩
              · go_wp2
                exact bodyPost_ret (v := .agg #[.int .i64 (wrap64 (wrap64 (-((V : Int) / 2)) - 1)),.int .i64 ((p : Int) + (k : Int) + 1),.int .i64 0]) (by simp [results,Tryz.results169,go_sem]) rfl ⟨num_end HE.out E1.out rfl,(Below.refl _ _).alloc (Nat.le_refl _) _⟩
            · have c3b : ((s[p + k].toNat : Int) == 0) = false := by rw [beq_eq_false_iff_ne]; omega
              by_cases hk9 : k = 9
              · have hk9b : ((k : Int) == 9) = true := by rw [beq_iff_eq]; omega
                have c5 : (s[p + k].toNat : Int) ≤ 1 := by omega
                have HK : Hid (k = 9) := hk9
                clear hk9 c1 c2
                rcases fold_back V hVlt.out with ⟨c6,E1⟩ | ⟨c6,E1⟩
                · go_wp2
                  exact bodyPost_ret (v := .agg #[.int .i64 ((V : Int) / 2),.int .i64 ((p : Int) + (k : Int) + 1),.int .i64 0]) (by simp [results,Tryz.results169,go_sem]) rfl ⟨num_end HE.out E1.out rfl,(Below.refl _ _).alloc (Nat.le_refl _) _⟩
                · go_wp2
                  exact bodyPost_ret (v := .agg #[.int .i64 (wrap64 (wrap64 (-((V : Int) / 2)) - 1)),.int .i64 ((p : Int) + (k : Int) + 1),.int .i64 0]) (by simp [results,Tryz.results169,go_sem]) rfl ⟨num_end HE.out E1.out rfl,(Below.refl _ _).alloc (Nat.le_refl _) _⟩
              · have hk9b : ((k : Int) == 9) = false := by rw [beq_eq_false_iff_ne]; omega
                clear c1 c2
                rcases fold_back V hVlt.out with ⟨c6,E1⟩ | ⟨c6,E1⟩
                · go_wp2
                  exact bodyPost_ret (v := .agg #[.int .i64 ((V : Int) / 2),.int .i64 ((p : Int) + (k : Int) + 1),.int .i64 0]) (by simp [results,Tryz.results169,go_sem]) rfl ⟨num_end HE.out E1.out rfl,(Below.refl _ _).alloc (Nat.le_refl _) _⟩
                · go_wp2
                  exact bodyPost_ret (v := .agg #[.int .i64 (wrap64 (wrap64 (-((V : Int) / 2)) - 1)),.int .i64 ((p : Int) + (k : Int) + 1),.int .i64 0]) (by simp [results,Tryz.results169,go_sem]) rfl ⟨num_end HE.out E1.out rfl,(Below.refl _ _).alloc (Nat.le_refl _) _⟩
      · by_cases hk9 : k = 9
        · have HE : Hid (r = (0,0,3)) := HR.out.trans (numRes_bad h (by omega) ((HS.out.symm).trans (scan_wrong9' hk9 (by omega))))
          have hk9b : ((k : Int) == 9) = true := by rw [beq_iff_eq]; omega
          have HK : Hid (k = 9) := hk9
          clear hk9
          go_wp2
          exact bodyPost_ret (v := numOut (0,0,3)) (by simp [results,Tryz.results169,go_sem]) rfl ⟨by rw [HE.out],(Below.refl _ _).alloc (Nat.le_refl _) _⟩
        · have hk9b : ((k : Int) == 9) = false := by rw [beq_eq_false_iff_ne]; omega
          have hst := add_step U s[p + k].toNat k hU.out hk (by omega)
          have h2 := scan_atMore HS.out hb (by omega) (fun _ => rfl) hU.out
          have h3 : Hid (U + s[p + k].toNat % 128 * 128 ^ k < 128 ^ (k + 1)) := h2.1
          have h4 : Hid (scan (s.data.toList.drop (p + (k + 1))) (k + 1) (U + s[p + k].toNat % 128 * 128 ^ k) = scan (s.data.toList.drop p) 0 0) := h2.2
          clear h2
          generalize U + s[p + k].toNat % 128 * 128 ^ k = V at hst h3 h4
          go_wp2
          go_round
          case rel => exact ⟨k + 1,V,by omega,by go_num,rfl,h3,h4⟩
          case measure => simp [intOf]; omega
    · have hge : (s.size : Int) - (k : Int) ≤ (p : Int) := by omega
      have HE : Hid (r = (0,0,4)) := HR.out.trans (numRes_bad h (by omega) ((hsc.out.symm).trans (by rw [List.drop_of_length_le (by simp; omega)]; rfl)))
      go_wp2
      exact bodyPost_ret (v := numOut (0,0,4)) (by simp [results,Tryz.results169,go_sem]) rfl ⟨by rw [HE.out],(Below.refl _ _).alloc (Nat.le_refl _) _⟩
theorem spec_getNum (s : ByteArray) (a : Int) (w : World) (hm : s.size ≤ maxLen) :
    Calls Tryz.prog 169 #[.string s,.int .i64 a] w fun e w' => e = .returned (numOut (numRes s a)) ∧ Below w.heap.size w w' := by
  by_cases h : 8000 < s.size
  · have e : numRes s a = (0,0,2) := by unfold numRes; rw [if_pos h]
    rw [e]; exact spec_getNum_size s a w hm h
  by_cases ha : a < 0
  · have e : numRes s a = (0,0,1) := by unfold numRes; rw [if_neg h,if_pos ha]
    rw [e]; exact spec_getNum_form s a w (by omega) ha
  obtain ⟨p,rfl⟩ := Int.eq_ofNat_of_zero_le (show 0 ≤ a by omega)
  exact spec_getNum_any s p w (by omega) _ rfl
end Go.Proofs.YtahccighonddaaaGreatDoor
