/- The law FnNums, walked. -/
import Derived.Test.YtgjckpgecmklkaaDoorNumBack
import Derived.Test.YtgjckpgecmklkaaDoorRows2
import Derived.Laws.StructEq
namespace Go.Proofs.YtgjckpgecmklkaaDoor
open Go.RowKit

theorem numLen (n : Int) : 1 ≤ (numBytes n).length ∧ (numBytes n).length ≤ 10 := vb_len 9 (fold64 n)
theorem getNum_xy (n : Int) (hn : inI64 n) (w : World) (hg : hasHandle w) : Calls Tryd.prog 9 #[.string ((⟨#[120, 121]⟩ : ByteArray) ++ ⟨(numBytes n).toArray⟩ ++ ⟨#[122]⟩), .int .i64 2] w
    fun e w' => e = .returned (.agg #[.int .i64 n, .int .i64 (((numBytes n).length : Int) + 2), .int .i64 0]) ∧ Below w.heap.size w w' := by
  have hl := numLen n
  have e : ((⟨#[120, 121]⟩ : ByteArray) ++ ⟨(numBytes n).toArray⟩ ++ ⟨#[122]⟩) = ⟨([120, 121] ++ (numBytes n ++ [122])).toArray⟩ := by
    apply ByteArray.ext
    simp
  rw [e]
  have hs : (⟨([120, 121] ++ (numBytes n ++ [122])).toArray⟩ : ByteArray).size ≤ 8000 := by rw [size_mk]; simp; omega
  have h := impl_getNum ⟨([120, 121] ++ (numBytes n ++ [122])).toArray⟩ ((2 : Nat) : Int) w (by unfold maxLen; omega) hg
  rw [numRes_at (p := 2) (rest := [122]) hn hs (by simp)] at h
  have e2 : ((2 + (numBytes n).length : Nat) : Int) = ((numBytes n).length : Int) + 2 := by omega
  rw [e2] at h
  exact h
theorem getNum_cut (n : Int) (hn : inI64 n) (w : World) (hg : hasHandle w) (s : ByteArray) (hs : s.data.toList = (numBytes n).dropLast) : Calls Tryd.prog 9 #[.string s, .int .i64 0] w
    fun e w' => e = .returned (.agg #[.int .i64 0, .int .i64 0, .int .i64 4]) ∧ Below w.heap.size w w' := by
  have hl := numLen n
  have hsz : s.size ≤ 8000 := by
    have h1 : s.data.toList.length = s.size := by simp
    rw [← h1, hs]; simp; omega
  have h := impl_getNum s ((0 : Nat) : Int) w (by unfold maxLen; omega) hg
  rw [numRes_cut hn hsz hs] at h
  exact h
theorem cut_eq (l : List UInt8) : ((⟨l.toArray⟩ : ByteArray).extract 0 (l.length - 1)).data.toList = l.dropLast := by
  rw [Lib.extract_data, List.dropLast_eq_take]
  simp
theorem getText_x (u : List UInt8) (hu : u.length ≤ 20) (w : World) (hg : hasHandle w) : Calls Tryd.prog 13 #[.string ((⟨#[120]⟩ : ByteArray) ++ ⟨(textBytes u).toArray⟩), .int .i64 1] w
    fun e w' => e = .returned (.agg #[.string ⟨u.toArray⟩, .int .i64 (((textBytes u).length : Int) + 1), .int .i64 0]) ∧ Below w.heap.size w w' := by
  have hl := numLen (u.length : Int)
  have htl : (textBytes u).length = (numBytes (u.length : Int)).length + u.length := by simp [textBytes]
  have e : ((⟨#[120]⟩ : ByteArray) ++ ⟨(textBytes u).toArray⟩) = ⟨([120] ++ (textBytes u ++ [])).toArray⟩ := by
    apply ByteArray.ext
    simp
  rw [e]
  have hs : (⟨([120] ++ (textBytes u ++ [])).toArray⟩ : ByteArray).size ≤ 8000 := by rw [size_mk]; simp; omega
  have h := impl_getText ⟨([120] ++ (textBytes u ++ [])).toArray⟩ ((1 : Nat) : Int) w (by unfold maxLen; omega) hg
  rw [textRes_back (u := u) (p := 1) (rest := []) (by omega) hs (by simp)] at h
  have e2 : ((1 + (textBytes u).length : Nat) : Int) = ((textBytes u).length : Int) + 1 := by omega
  simp only [e2] at h
  exact h
theorem getText_cut (u : List UInt8) (hu : u.length ≤ 20) (w : World) (hg : hasHandle w) (s : ByteArray) (hs : s.data.toList = (textBytes u).dropLast) : ∃ (t : ByteArray) (q : Int), Calls Tryd.prog 13 #[.string s, .int .i64 0] w
    fun e w' => e = .returned (.agg #[.string t, .int .i64 q, .int .i64 4]) ∧ Below w.heap.size w w' := by
  have hl := numLen (u.length : Int)
  have htl : (textBytes u).length = (numBytes (u.length : Int)).length + u.length := by simp [textBytes]
  have hsz : s.size ≤ 8000 := by
    have h1 : s.data.toList.length = s.size := by simp
    rw [← h1, hs]; simp; omega
  have h := impl_getText s ((0 : Nat) : Int) w (by unfold maxLen; omega) hg
  have hc := textRes_cut (by omega) hsz hs
  generalize textRes s ((0 : Nat) : Int) = r at h hc
  obtain ⟨t, q, c⟩ := r
  have hc' : c = 4 := hc
  subst hc'
  exact ⟨t, q, h⟩

set_option maxRecDepth 100000 in
set_option maxHeartbeats 1000000 in
theorem law_fnNums_in (a0 : Option Addr) (len0 cap0 : Nat) (a1 : Option Addr) (len1 cap1 : Nat) (w : World) (h0 : len0 ≤ 1048576) (h1 : len1 ≤ 1048576) (hb0 : Bytes w.heap.size w a0 len0) (hb1 : Bytes w.heap.size w a1 len1) (hg : hasHandle w) :
    Calls Tryd.prog 3 #[.slice a0 len0 cap0, .slice a1 len1 cap1] w fun e w' => e = .returned (.bool true) ∧ Below w.heap.size w w' := by
  have HB0 : Hid _ := hb0
  have HB1 : Hid _ := hb1
  have HG : Hid _ := hg
  clear hb0 hb1 hg
  go_enter Tryd.func3, Tryd.ntmps3
  go_wp2_with fail
  refine (draw_putNum w a0 len0 cap0 h0 HB0.out).mono ?_
  rintro e w1 ⟨n, rfl, hn, hL1⟩
  have HL1 : Hid (Below w.heap.size w w1) := hL1
  have HN : Hid (inI64 n) := hn
  have hnl := numLen n
  clear hL1 hn
  go_wp2_with fail
  refine (impl_putNum n _ HN.out.1 HN.out.2).mono ?_
  rintro e w2 ⟨rfl, hb2⟩
  have HL2 : Hid (Below w.heap.size w w2) := HL1.out.trans (hb2.mono HL1.out.size)
  clear hb2
  go_wp2_with fail
  refine (spec_putNum n _ HN.out.1 HN.out.2).mono ?_
  rintro e w3 ⟨rfl, hb3⟩
  have HL3 : Hid (Below w.heap.size w w3) := HL2.out.trans (hb3.mono HL2.out.size)
  clear hb3
  have HG3 : Hid _ := hasHandle_below HG.out HL3.out
  go_wp2_with fail
  refine (getNum_xy n HN.out _ HG3.out).mono ?_
  rintro e w4 ⟨rfl, hb4⟩
  have HL4 : Hid (Below w.heap.size w w4) := HL3.out.trans (hb4.mono HL3.out.size)
  clear hb4
  have hnn : (n == n) = true := by simp
  have HG4 : Hid _ := hasHandle_alloc (hasHandle_below HG.out HL4.out) (.cells #[.int .i64 n, .int .i64 (((numBytes n).length : Int) + 2), .int .i64 0] 26)
  have HL4a : Hid (Below w.heap.size w (w4.alloc (.cells #[.int .i64 n, .int .i64 (((numBytes n).length : Int) + 2), .int .i64 0] 26))) := HL4.out.alloc HL4.out.size _
  go_wp2_with fail
  refine (getNum_cut n HN.out _ HG4.out _ (cut_eq _)).mono ?_
  rintro e w5 ⟨rfl, hb5⟩
  have HL5 : Hid (Below w.heap.size w w5) := HL4a.out.trans (hb5.mono HL4a.out.size)
  have HM5 : Hid _ := bytes_up (bytes_below HB1.out HL5.out (Nat.le_refl _)) HL5.out.size
  have hfld : ∀ w, (Instr.field 26 (.agg #[.int .i64 0, .int .i64 0, .int .i64 4]) 2).run Tryd.prog w = .ok (.int .i64 4) w := fun _ => by kernel_rfl
  clear hb5
  go_wp2_with fail
  refine (draw_putText w5 a1 len1 cap1 h1 HM5.out).mono ?_
  rintro e w6 ⟨u, rfl, hu, hu2, hb6⟩
  have HL6 : Hid (Below w.heap.size w w6) := HL5.out.trans (hb6.mono HL5.out.size)
  clear hb6 hfld hnn hnl
  by_cases hs : u.length ≤ 20
  · have hul := numLen (u.length : Int)
    have htl : (textBytes u).length = (numBytes (u.length : Int)).length + u.length := by simp [textBytes]
    have hbd : 1 ≤ (textBytes u).length ∧ (textBytes u).length ≤ 30 := by omega
    have hne : (textBytes u).isEmpty = false := by rw [List.isEmpty_eq_false_iff]; intro e; rw [e] at hbd; simp at hbd
    clear hul htl
    go_wp2_with fail
    refine (impl_putText ⟨u.toArray⟩ _ (by rw [size_mk]; omega)).mono ?_
    rintro e w7 ⟨rfl, hb7⟩
    have HL7 : Hid (Below w.heap.size w w7) := HL6.out.trans (hb7.mono HL6.out.size)
    clear hb7
    go_wp2_with fail
    refine (spec_putText ⟨u.toArray⟩ _ (by rw [size_mk]; omega)).mono ?_
    rintro e w8 ⟨rfl, hb8⟩
    have HL8 : Hid (Below w.heap.size w w8) := HL7.out.trans (hb8.mono HL7.out.size)
    clear hb8
    have HG8 : Hid _ := hasHandle_below HG.out HL8.out
    have hsum : ((textBytes u).length : Int) + 1 ≤ 8000 := by omega
    go_wp2_with fail
    refine (getText_x u hs _ HG8.out).mono ?_
    rintro e w9 ⟨rfl, hb9⟩
    have HL9 : Hid (Below w.heap.size w w9) := HL8.out.trans (hb9.mono HL8.out.size)
    clear hb9
    have HG9 : Hid _ := hasHandle_below HG.out HL9.out
    go_wp2_with fail
    obtain ⟨t, q, hcut⟩ := getText_cut u hs _ HG9.out _ (cut_eq _)
    refine hcut.mono ?_
    rintro e w10 ⟨rfl, hb10⟩
    have HL10 : Hid (Below w.heap.size w w10) := HL9.out.trans (hb10.mono HL9.out.size)
    have hfld : ∀ w, (Instr.field 31 (.agg #[.string t, .int .i64 q, .int .i64 4]) 2).run Tryd.prog w = .ok (.int .i64 4) w := fun _ => by kernel_rfl
    clear hcut hb10
    go_wp2
    go_ret
    exact ⟨rfl, HL10.out⟩
  · have hbig : 19999 ≤ u.length := by omega
    go_wp2_with fail
    refine (impl_putText_no ⟨u.toArray⟩ _ (by rw [size_mk]; unfold maxLen; omega) (by rw [size_mk]; omega)).mono ?_
    rintro e w7 ⟨rfl, rfl⟩
    go_wp2_with fail
    refine (spec_putText_no ⟨u.toArray⟩ _ (by rw [size_mk]; unfold maxLen; omega) (by rw [size_mk]; omega)).mono ?_
    rintro e w8 ⟨rfl, rfl⟩
    go_wp2_with fail
    refine (spec_putText_no ⟨u.toArray⟩ _ (by rw [size_mk]; unfold maxLen; omega) (by rw [size_mk]; omega)).mono ?_
    rintro e w9 ⟨rfl, rfl⟩
    go_wp2
    go_ret
    exact ⟨rfl, HL6.out⟩

theorem law_fnNums (a0 : Option Addr) (len0 cap0 : Nat) (z0 : List Int) (a1 : Option Addr) (len1 cap1 : Nat) (z1 : List Int) (w : World) (w0 : IsRow .u8 w a0 len0 cap0 z0) (w1 : IsRow .u8 w a1 len1 cap1 z1) (hg : hasHandle w) :
    Calls Tryd.prog 3 #[.slice a0 len0 cap0, .slice a1 len1 cap1] w fun e w' => e = .returned (.bool true) ∧ Below w.heap.size w w' := by
  by_cases h0 : len0 ≤ 1048576
  · by_cases h1 : len1 ≤ 1048576
    · exact law_fnNums_in a0 len0 cap0 a1 len1 cap1 w h0 h1 (bytes_of_row w0) (bytes_of_row w1) hg
    · clear w0 w1 hg
      go_enter Tryd.func3, Tryd.ntmps3
      go_wp2
      go_ret
      exact ⟨rfl, Below.refl _ _⟩
  · clear w0 w1 hg
    go_enter Tryd.func3, Tryd.ntmps3
    go_wp2
    go_ret
    exact ⟨rfl, Below.refl _ _⟩
end Go.Proofs.YtgjckpgecmklkaaDoor
