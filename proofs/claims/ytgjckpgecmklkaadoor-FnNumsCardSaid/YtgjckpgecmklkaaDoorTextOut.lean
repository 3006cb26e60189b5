/- A TextOut as a value; its comparison in the law. -/
import Derived.Test.YtgjckpgecmklkaaDoorBase
namespace Go.Proofs.YtgjckpgecmklkaaDoor
open Go.RowKit
abbrev textOut (t : ByteArray) (at_ code : Int) : Value := .agg #[.string t, .int .i64 at_, .int .i64 code]
set_option maxHeartbeats 1000000 in
theorem law_eqTextOut (t : ByteArray) (n c : Int) (w : World) :
    Calls Tryd.prog 17 #[textOut t n c, textOut t n c] w fun e w' => e = .returned (.bool true) ∧ Below w.heap.size w w' := by
  have e1 : (t.toList == t.toList) = true := by simp
  have e2 : (n != n) = false := by simp
  have e3 : (c != c) = false := by simp
  go_enter Tryd.func17, Tryd.ntmps17
  go_wp2
  go_ret
  exact ⟨rfl, ((Below.refl _ _).alloc (Nat.le_refl _) _).alloc (by simp) _⟩
end Go.Proofs.YtgjckpgecmklkaaDoor
