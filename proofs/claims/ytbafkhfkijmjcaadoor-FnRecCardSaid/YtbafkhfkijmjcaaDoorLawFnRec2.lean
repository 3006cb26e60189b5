/- The law FnRec, for every pair of codes. -/
import Derived.Test.YtbafkhfkijmjcaaDoorLawFnRec
namespace Go.Proofs.YtbafkhfkijmjcaaDoor
open Go.RowKit

theorem law_fnRec (a0 : Option Addr) (len0 cap0 : Nat) (z0 : List Int) (a1 : Option Addr) (len1 cap1 : Nat) (z1 : List Int) (w : World) (w0 : IsRow .u8 w a0 len0 cap0 z0) (w1 : IsRow .u8 w a1 len1 cap1 z1) (hT : utabs w) :
    Calls Tryd.prog 3 #[.slice a0 len0 cap0, .slice a1 len1 cap1] w fun e w' => e = .returned (.bool true) ∧ Below w.heap.size w w' := by
  by_cases h0 : len0 ≤ 1048576
  · by_cases h1 : len1 ≤ 1048576
    · exact law_fnRec_in a0 len0 cap0 a1 len1 cap1 w h0 h1 (bytes_of_row w0) (bytes_of_row w1) hT
    · clear w0 w1 hT
      go_enter Tryd.func3, Tryd.ntmps3
      go_wp2
      go_ret
      exact ⟨rfl, Below.refl _ _⟩
  · clear w0 w1 hT
    go_enter Tryd.func3, Tryd.ntmps3
    go_wp2
    go_ret
    exact ⟨rfl, Below.refl _ _⟩
end Go.Proofs.YtbafkhfkijmjcaaDoor
