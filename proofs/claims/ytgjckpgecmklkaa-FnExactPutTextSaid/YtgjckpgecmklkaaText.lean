/- Contracts for PutText. -/
import Derived.Test.YtgjckpgecmklkaaNum
import Derived.Test.YtgjckpgecmklkaaCopy
namespace Go.Proofs.Ytgjckpgecmklkaa
open Go.RowKit

def textBytes (l : List UInt8) : List UInt8 := numBytes l.length ++ l
theorem num_len (n : Int) : (numBytes n).length ≤ 10 := by
  have := vb_len 9 (fold64 n)
  unfold numBytes
  omega

set_option maxHeartbeats 1000000 in
theorem impl_putText (s : ByteArray) (w : World) (hs : s.size ≤ 8000) :
    Calls Try.prog 23 #[.string s] w fun e w' => e = .returned (.string ⟨(textBytes s.data.toList).toArray⟩) ∧ Below w.heap.size w w' := by
  have hn := num_len (s.size : Int)
  go_enter Try.func23, Try.ntmps23
  go_wp2_with fail
  refine (impl_putNum (s.size : Int) _ (by omega) (by omega)).mono ?_
  rintro e w1 ⟨rfl, hb1⟩
  go_wp2_with fail
  refine (impl_joinTexts _ s _ (by rw [size_mk]; omega)).mono ?_
  rintro e w2 ⟨rfl, hb2⟩
  go_wp2
  go_ret
  exact ⟨by simp [textBytes], hb1.trans (hb2.mono hb1.size)⟩
theorem impl_putText_no (s : ByteArray) (w : World) (hm : s.size ≤ maxLen) (hs : 8000 < s.size) :
    Calls Try.prog 23 #[.string s] w fun e w' => e = .returned (.string ⟨#[]⟩) ∧ w' = w := by
  unfold maxLen at hm
  go_enter Try.func23, Try.ntmps23
  go_wp2
  go_ret
  exact ⟨rfl, rfl⟩
set_option maxHeartbeats 1000000 in
theorem spec_putText (s : ByteArray) (w : World) (hs : s.size ≤ 8000) :
    Calls Try.prog 22 #[.string s] w fun e w' => e = .returned (.string ⟨(textBytes s.data.toList).toArray⟩) ∧ Below w.heap.size w w' := by
  have hn := num_len (s.size : Int)
  go_enter Try.func22, Try.ntmps22
  go_wp2_with fail
  refine (spec_putNum (s.size : Int) _ (by omega) (by omega)).mono ?_
  rintro e w1 ⟨rfl, hb1⟩
  go_wp2
  go_ret
  exact ⟨ret_string ((cat_eq _ s).trans (by simp [textBytes])), hb1⟩
theorem spec_putText_no (s : ByteArray) (w : World) (hm : s.size ≤ maxLen) (hs : 8000 < s.size) :
    Calls Try.prog 22 #[.string s] w fun e w' => e = .returned (.string ⟨#[]⟩) ∧ w' = w := by
  unfold maxLen at hm
  go_enter Try.func22, Try.ntmps22
  go_wp2
  go_ret
  exact ⟨rfl, rfl⟩

set_option maxHeartbeats 1000000 in
theorem law_putText (s : ByteArray) (w : World) (hm : s.size ≤ maxLen) :
    Calls Try.prog 5 #[.string s] w fun e w' => e = .returned (.bool true) ∧ Below w.heap.size w w' := by
  by_cases hs : s.size ≤ 8000
  · go_enter Try.func5, Try.ntmps5
    go_wp2_with fail
    refine (spec_putText _ _ hs).mono ?_
    rintro e w1 ⟨rfl, hb1⟩
    go_wp2_with fail
    refine (impl_putText _ _ hs).mono ?_
    rintro e w2 ⟨rfl, hb2⟩
    go_wp2
    go_ret
    exact ⟨rfl, hb1.trans (hb2.mono hb1.size)⟩
  by_cases hs' : s.size ≤ 1048576
  · go_enter Try.func5, Try.ntmps5
    go_wp2_with (first | (go_at_call 23; refine (impl_putText_no _ _ hm (by omega)).mono ?_; rintro e w' ⟨rfl, rfl⟩) | (go_at_call 22; refine (spec_putText_no _ _ hm (by omega)).mono ?_; rintro e w' ⟨rfl, rfl⟩))
    go_ret
    exact ⟨rfl, Below.refl _ _⟩
  · unfold maxLen at hm
    go_enter Try.func5, Try.ntmps5
    go_wp2
    go_ret
    exact ⟨rfl, Below.refl _ _⟩
end Go.Proofs.Ytgjckpgecmklkaa
