/- Contracts for PutText. -/
import Derived.Test.YtbbaghlmialaoaaGreatDoorNum
import Derived.Test.YtbbaghlmialaoaaGreatDoorCopy
namespace Go.Proofs.YtbbaghlmialaoaaGreatDoor
open Go.RowKit

def textBytes (l : List UInt8) : List UInt8 := numBytes l.length ++ l
theorem num_len (n : Int) : (numBytes n).length ≤ 10 := by
  have := vb_len 9 (fold64 n)
  unfold numBytes
  omega

set_option maxHeartbeats 1000000 in
theorem impl_putText (s : ByteArray) (w : World) (hs : s.size ≤ 8000) :
    Calls Tryz.prog 140 #[.string s] w fun e w' => e = .returned (.string ⟨(textBytes s.data.toList).toArray⟩) ∧ Below w.heap.size w w' := by
  have hn := num_len (s.size : Int)
  go_enter Tryz.func140, Tryz.ntmps140
  go_wp2_with fail
  refine (impl_putNum (s.size : Int) _ (by omega) (by omega)).mono ?_
  rintro e w1 ⟨rfl, hb1⟩
  go_wp2_with fail
  refine (impl_joinTexts _ s _ (by rw [size_mk]; omega)).mono ?_
  rintro e w2 ⟨rfl, hb2⟩
  go_wp2
  go_ret
  exact ⟨by simp [textBytes], hb1.trans (hb2.mono hb1.size)⟩
theorem impl_putText_no (s : ByteArray) (w : World) (hm : s.size ≤ maxLen) (hs : 8000 < s.size) :
    Calls Tryz.prog 140 #[.string s] w fun e w' => e = .returned (.string ⟨#[]⟩) ∧ w' = w := by
  unfold maxLen at hm
  go_enter Tryz.func140, Tryz.ntmps140
  go_wp2
  go_ret
  exact ⟨rfl, rfl⟩
set_option maxHeartbeats 1000000 in
theorem spec_putText (s : ByteArray) (w : World) (hs : s.size ≤ 8000) :
    Calls Tryz.prog 145 #[.string s] w fun e w' => e = .returned (.string ⟨(textBytes s.data.toList).toArray⟩) ∧ Below w.heap.size w w' := by
  have hn := num_len (s.size : Int)
  go_enter Tryz.func145, Tryz.ntmps145
  go_wp2_with fail
  refine (spec_putNum (s.size : Int) _ (by omega) (by omega)).mono ?_
  rintro e w1 ⟨rfl, hb1⟩
  go_wp2
  go_ret
  exact ⟨ret_string ((cat_eq _ s).trans (by simp [textBytes])), hb1⟩
theorem spec_putText_no (s : ByteArray) (w : World) (hm : s.size ≤ maxLen) (hs : 8000 < s.size) :
    Calls Tryz.prog 145 #[.string s] w fun e w' => e = .returned (.string ⟨#[]⟩) ∧ w' = w := by
  unfold maxLen at hm
  go_enter Tryz.func145, Tryz.ntmps145
  go_wp2
  go_ret
  exact ⟨rfl, rfl⟩

end Go.Proofs.YtbbaghlmialaoaaGreatDoor
