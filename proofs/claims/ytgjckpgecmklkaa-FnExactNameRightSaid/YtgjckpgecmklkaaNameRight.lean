/- Contracts for NameRight, the program's and the model's: each answers whether the text is a name, and turns nothing. -/
import Derived.Test.YtgjckpgecmklkaaBase
namespace Go.Proofs.Ytgjckpgecmklkaa
open Go.RowKit

def letB (n : Int) : Bool := decide (97 ≤ n ∧ n ≤ 122)
def digB (n : Int) : Bool := decide (48 ≤ n ∧ n ≤ 57)
def okB (k : Nat) (c : UInt8) : Bool := letB c.toNat || (decide (k ≠ 0) && (digB c.toNat || (c.toNat : Int) == 95))
def nameB (s : ByteArray) : Bool := decide (1 ≤ s.size ∧ s.size ≤ 20 ∧ ∀ k (h : k < s.size), okB k s[k] = true)

theorem nameB_small {s : ByteArray} (h : s.size < 1) : false = nameB s := by
  symm; unfold nameB; exact decide_eq_false (fun h' => by omega)
theorem nameB_great {s : ByteArray} (h : 20 < s.size) : false = nameB s := by
  symm; unfold nameB; exact decide_eq_false (fun h' => by omega)
theorem nameB_bad {s : ByteArray} {k : Nat} (h : k < s.size) (hb : okB k s[k] = false) : false = nameB s := by
  symm; unfold nameB; exact decide_eq_false (fun h' => by have := h'.2.2 k h; rw [hb] at this; cases this)
theorem nameB_good {s : ByteArray} (h1 : 1 ≤ s.size) (h2 : s.size ≤ 20) (h : ∀ j (h : j < s.size), j < s.size → okB j s[j] = true) : true = nameB s := by
  symm; unfold nameB; exact decide_eq_true ⟨h1, h2, fun k hk => h k hk hk⟩
theorem all_succ {s : ByteArray} {k : Nat} (hk : k < s.size) (h : ∀ j (h : j < s.size), j < k → okB j s[j] = true) (h' : okB k s[k] = true) :
    ∀ j (h : j < s.size), j < k + 1 → okB j s[j] = true := fun j hj hlt => by
  by_cases e : j = k
  · subst e; exact h'
  · exact h j hj (by omega)

theorem okB_let {k : Nat} {c : UInt8} (h1 : (97 : Int) ≤ (c.toNat : Int)) (h2 : (c.toNat : Int) ≤ 122) : okB k c = true := by simp [okB, letB]; omega
theorem okB_zero {k : Nat} {c : UInt8} (h : k = 0) (h2 : ¬ ((97 : Int) ≤ (c.toNat : Int) ∧ (c.toNat : Int) ≤ 122)) : okB k c = false := by simp [okB, letB, h]; omega
def okC (n : Nat) : Bool := letB n || digB n || (n : Int) == 95
theorem okB_pos {k : Nat} {c : UInt8} (h : ¬ k = 0) (h2 : okC c.toNat = true) : okB k c = true := by
  simp [okC] at h2
  simp [okB, h]
  rcases h2 with (h2 | h2) | h2 <;> simp [h2]
theorem okB_neg {k : Nat} {c : UInt8} (h : ¬ k = 0) (h2 : okC c.toNat = false) : okB k c = false := by
  simp [okC] at h2
  simp [okB, h, h2]
theorem ok_cases (n : Nat) : (okC n = true ∧ ((97 ≤ (n : Int) ∧ (n : Int) ≤ 122) ∨ (48 ≤ (n : Int) ∧ (n : Int) ≤ 57) ∨ (n : Int) = 95)) ∨
    (okC n = false ∧ ((n : Int) < 48 ∨ (57 < (n : Int) ∧ (n : Int) < 95) ∨ (95 < (n : Int) ∧ (n : Int) < 97) ∨ 122 < (n : Int))) := by
  by_cases h : (97 ≤ (n : Int) ∧ (n : Int) ≤ 122) ∨ (48 ≤ (n : Int) ∧ (n : Int) ≤ 57) ∨ (n : Int) = 95
  · exact .inl ⟨by simp [okC, letB, digB]; omega, h⟩
  · exact .inr ⟨by simp [okC, letB, digB]; omega, by omega⟩

set_option maxHeartbeats 1000000 in
theorem spec_nameRight (s : ByteArray) (w : World) (hs : s.size ≤ 1048576) :
    Calls Try.prog 24 #[.string s] w fun e w' => e = .returned (.bool (nameB s)) ∧ w' = w := by
  by_cases h1 : s.size < 1
  · have E := nameB_small h1
    have E' : Hid (false = nameB s) := E
    clear E
    go_enter Try.func24, Try.ntmps24
    go_wp2
    go_ret
    exact ⟨ret_bool E'.out, rfl⟩
  by_cases h2 : 20 < s.size
  · have E' : Hid (false = nameB s) := nameB_great h2
    go_enter Try.func24, Try.ntmps24
    go_wp2
    go_ret
    exact ⟨ret_bool E'.out, rfl⟩
  go_enter Try.func24, Try.ntmps24
  go_wp2
  go_loop [3] (fun i => ∃ k : Nat, k ≤ s.size ∧ i = .int .i64 k ∧ Hid (∀ j (h : j < s.size), j < k → okB j s[j] = true)) (fun i => s.size - (intOf i).toNat)
  case atStart => exact ⟨0, Nat.zero_le _, rfl, fun j h hj => by omega⟩
  case round =>
    obtain ⟨k, hk, rfl, hall⟩ := hrel
    by_cases hlt : k < s.size
    · by_cases hk0 : k = 0
      · have hk0b : ((k : Int) == 0) = true := by simp [hk0]
        by_cases hg : (97 : Int) ≤ (s[k].toNat : Int) ∧ (s[k].toNat : Int) ≤ 122
        · have ok : Hid (okB k s[k] = true) := okB_let hg.1 hg.2
          obtain ⟨hg1, hg2⟩ := hg
          have HK : Hid (k = 0) := hk0
          clear hk0 hk0b
          go_wp2
          go_round
          case rel => exact ⟨k + 1, by omega, by go_num, all_succ hlt hall.out ok.out⟩
          case measure => simp [intOf]; omega
        · have ok : Hid (okB k s[k] = false) := okB_zero hk0 hg
          have HK : Hid (k = 0) := hk0
          clear hk0
          rcases (show (s[k].toNat : Int) < 97 ∨ (97 ≤ (s[k].toNat : Int) ∧ 122 < (s[k].toNat : Int)) by omega) with hg' | ⟨hg1, hg2⟩
          all_goals clear hg
          · go_wp2
            go_ret
            exact ⟨ret_bool (nameB_bad hlt ok.out), rfl⟩
          have hd : (!decide ((s[k].toNat : Int) ≤ 122)) = true := by simp; omega
          all_goals go_wp2
          all_goals go_ret
          all_goals exact ⟨ret_bool (nameB_bad hlt ok.out), rfl⟩
      · have hk0b : ((k : Int) == 0) = false := by simp [hk0]
        rcases ok_cases s[k].toNat with ⟨h, hg⟩ | ⟨h, hg⟩
        · have ok : Hid (okB k s[k] = true) := okB_pos hk0 h
          clear h
          rcases hg with ⟨hg1, hg2⟩ | ⟨hg1, hg2⟩ | hg1
          · go_wp2
            go_round
            case rel => exact ⟨k + 1, by omega, by go_num, all_succ hlt hall.out ok.out⟩
            case measure => simp [intOf]; omega
          · go_wp2
            go_round
            case rel => exact ⟨k + 1, by omega, by go_num, all_succ hlt hall.out ok.out⟩
            case measure => simp [intOf]; omega
          · have hn : ((s[k].toNat : Int) != 95) = false := by simp [hg1]
            have H1 : (57 : Int) < (s[k].toNat : Int) := by omega
            have H2 : (s[k].toNat : Int) < 97 := by omega
            clear hg1
            go_wp2
            go_round
            case rel => exact ⟨k + 1, by omega, by go_num, all_succ hlt hall.out ok.out⟩
            case measure => simp [intOf]; omega
        · have ok : Hid (okB k s[k] = false) := okB_neg hk0 h
          clear h
          have hn : ((s[k].toNat : Int) != 95) = true := by rw [bne_iff_ne]; omega
          rcases hg with hg1 | ⟨hg1, hg2⟩ | ⟨hg1, hg2⟩ | hg1
          · go_wp2
            go_ret
            exact ⟨ret_bool (nameB_bad hlt ok.out), rfl⟩
          all_goals have hd1 : (!decide ((s[k].toNat : Int) ≤ 57)) = true := by simp; omega
          · go_wp2
            go_ret
            exact ⟨ret_bool (nameB_bad hlt ok.out), rfl⟩
          · go_wp2
            go_ret
            exact ⟨ret_bool (nameB_bad hlt ok.out), rfl⟩
          have hd : (!decide ((s[k].toNat : Int) ≤ 122)) = true := by simp; omega
          all_goals go_wp2
          all_goals go_ret
          all_goals exact ⟨ret_bool (nameB_bad hlt ok.out), rfl⟩
    · go_wp2
      go_ret
      have e : k = s.size := by omega
      subst e
      exact ⟨ret_bool (nameB_good (by omega) (by omega) hall.out), rfl⟩

theorem impl_isLetter (c : Int) (w : World) : Calls Try.prog 42 #[.int .u8 c] w fun e w' => e = .returned (.bool (letB c)) ∧ w' = w := by
  by_cases h1 : 97 ≤ c
  · go_enter Try.func42, Try.ntmps42
    go_wp2
    go_ret
    exact ⟨ret_bool (by simp [letB, h1]), rfl⟩
  · have h2 : c < 97 := by omega
    go_enter Try.func42, Try.ntmps42
    go_wp2
    go_ret
    exact ⟨ret_bool (by simp [letB]; omega), rfl⟩
theorem impl_isDigit (c : Int) (w : World) : Calls Try.prog 43 #[.int .u8 c] w fun e w' => e = .returned (.bool (digB c)) ∧ w' = w := by
  by_cases h1 : 48 ≤ c
  · go_enter Try.func43, Try.ntmps43
    go_wp2
    go_ret
    exact ⟨ret_bool (by simp [digB, h1]), rfl⟩
  · have h2 : c < 48 := by omega
    go_enter Try.func43, Try.ntmps43
    go_wp2
    go_ret
    exact ⟨ret_bool (by simp [digB]; omega), rfl⟩

theorem okB_of_let {k : Nat} {c : UInt8} (h : letB c.toNat = true) : okB k c = true := by simp [okB, h]
theorem okB_of_dig {k : Nat} {c : UInt8} (h0 : 1 ≤ k) (h : digB c.toNat = true) : okB k c = true := by simp [okB, h]; omega
theorem okB_of_95 {k : Nat} {c : UInt8} (h0 : 1 ≤ k) (h : ((c.toNat : Int) != 95) = false) : okB k c = true := by simp at h; simp [okB, h]; omega
theorem okB_of_none {k : Nat} {c : UInt8} (h1 : letB c.toNat = false) (h2 : digB c.toNat = false) (h : ((c.toNat : Int) != 95) = true) : okB k c = false := by simp at h; simp [okB, h1, h2, h]
theorem okB_of_zero {c : UInt8} (h1 : letB c.toNat = false) : okB 0 c = false := by simp [okB, h1]

set_option maxHeartbeats 1000000 in
theorem impl_nameRight (s : ByteArray) (w : World) (hs : s.size ≤ 1048576) :
    Calls Try.prog 25 #[.string s] w fun e w' => e = .returned (.bool (nameB s)) ∧ w' = w := by
  by_cases h1 : s.size < 1
  · have E' : Hid (false = nameB s) := nameB_small h1
    go_enter Try.func25, Try.ntmps25
    go_wp2
    go_ret
    exact ⟨ret_bool E'.out, rfl⟩
  by_cases h2 : 20 < s.size
  · have E' : Hid (false = nameB s) := nameB_great h2
    go_enter Try.func25, Try.ntmps25
    go_wp2
    go_ret
    exact ⟨ret_bool E'.out, rfl⟩
  have h1' : 0 < s.size := by omega
  cases hl0 : letB (s[0].toNat)
  · have E' : Hid (false = nameB s) := nameB_bad h1' (okB_of_zero hl0)
    go_enter Try.func25, Try.ntmps25
    go_wp2_with (first | (go_at_call 42; refine (impl_isLetter _ _).mono ?_; rintro e w' ⟨rfl, rfl⟩))
    go_ret
    exact ⟨ret_bool E'.out, rfl⟩
  have ok0 : Hid (okB 0 s[0] = true) := okB_of_let hl0
  go_enter Try.func25, Try.ntmps25
  go_wp2_with (first | (go_at_call 42; refine (impl_isLetter _ _).mono ?_; rintro e w' ⟨rfl, rfl⟩))
  clear hl0
  go_loop [3] (fun i => ∃ k : Nat, 1 ≤ k ∧ k ≤ s.size ∧ i = .int .i64 k ∧ Hid (∀ j (h : j < s.size), j < k → okB j s[j] = true)) (fun i => s.size - (intOf i).toNat)
  case atStart => exact ⟨1, Nat.le_refl _, by omega, rfl, fun j h hj => by have e : j = 0 := by omega
                                                                           subst e; exact ok0.out⟩
  case round =>
    obtain ⟨k, hk1, hk, rfl, hall⟩ := hrel
    by_cases hlt : k < s.size
    · cases hl : letB (s[k].toNat)
      · cases hd : digB (s[k].toNat)
        · cases hu : ((s[k].toNat : Int) != 95)
          · have ok : Hid (okB k s[k] = true) := okB_of_95 hk1 hu
            go_wp2_with (first | (go_at_call 42; refine (impl_isLetter _ _).mono ?_; rintro e w' ⟨rfl, rfl⟩) | (go_at_call 43; refine (impl_isDigit _ _).mono ?_; rintro e w' ⟨rfl, rfl⟩))
            go_round
            case rel => exact ⟨k + 1, by omega, by omega, by go_num, all_succ hlt hall.out ok.out⟩
            case measure => simp [intOf]; omega
          · have ok : Hid (okB k s[k] = false) := okB_of_none hl hd hu
            go_wp2_with (first | (go_at_call 42; refine (impl_isLetter _ _).mono ?_; rintro e w' ⟨rfl, rfl⟩) | (go_at_call 43; refine (impl_isDigit _ _).mono ?_; rintro e w' ⟨rfl, rfl⟩))
            go_ret
            exact ⟨ret_bool (nameB_bad hlt ok.out), rfl⟩
        · have ok : Hid (okB k s[k] = true) := okB_of_dig hk1 hd
          go_wp2_with (first | (go_at_call 42; refine (impl_isLetter _ _).mono ?_; rintro e w' ⟨rfl, rfl⟩) | (go_at_call 43; refine (impl_isDigit _ _).mono ?_; rintro e w' ⟨rfl, rfl⟩))
          go_round
          case rel => exact ⟨k + 1, by omega, by omega, by go_num, all_succ hlt hall.out ok.out⟩
          case measure => simp [intOf]; omega
      · have ok : Hid (okB k s[k] = true) := okB_of_let hl
        go_wp2_with (first | (go_at_call 42; refine (impl_isLetter _ _).mono ?_; rintro e w' ⟨rfl, rfl⟩) | (go_at_call 43; refine (impl_isDigit _ _).mono ?_; rintro e w' ⟨rfl, rfl⟩))
        go_round
        case rel => exact ⟨k + 1, by omega, by omega, by go_num, all_succ hlt hall.out ok.out⟩
        case measure => simp [intOf]; omega
    · go_wp2
      go_ret
      have e : k = s.size := by omega
      subst e
      exact ⟨ret_bool (nameB_good (by omega) (by omega) hall.out), rfl⟩

set_option maxHeartbeats 1000000 in
theorem law_nameRight (s : ByteArray) (w : World) (_hm : s.size ≤ maxLen) :
    Calls Try.prog 6 #[.string s] w fun e w' => e = .returned (.bool true) ∧ Below w.heap.size w w' := by
  unfold maxLen at _hm
  by_cases hs : s.size ≤ 1048576
  · have hne : ((nameB s) != (nameB s)) = false := by simp
    go_enter Try.func6, Try.ntmps6
    go_wp2_with (first | (go_at_call 25; refine (impl_nameRight _ _ hs).mono ?_; rintro e w' ⟨rfl, rfl⟩) | (go_at_call 24; refine (spec_nameRight _ _ hs).mono ?_; rintro e w' ⟨rfl, rfl⟩))
    go_ret
    exact ⟨rfl, Below.refl _ _⟩
  · go_enter Try.func6, Try.ntmps6
    go_wp2
    go_ret
    exact ⟨rfl, Below.refl _ _⟩
end Go.Proofs.Ytgjckpgecmklkaa
