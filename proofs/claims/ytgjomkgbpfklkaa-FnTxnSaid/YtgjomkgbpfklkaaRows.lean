/-
  No cell of these rows narrows 'for every input' (looked for: loops, veiled, ifaces, maps, wideKeys, modest, calm, conditions, laid).
  DERIVED. THE GIVEN ROWS OF THIS SEAT. 4 by the template 'for every input the law returns true; each argument reads behind the call as it read before'; 0 by the template 'total and deterministic' (their statements: YtgjomkgbpfklkaaTotals.lean).
  GIVEN WITH THE SEED: the statements are not yours to turn. If you find one false, say at which input.
  Laid BY PROGRAM, IN A SANDBOX (cutbox-rows.mjs): the forced cells as the released guide's own fill.sh prints them over the translation 0681bab5502e7634… (all of the seat's roots in one cut). By AI agents, Wed Nov 11 2026. No macro, syntax, notation, axiom, sorry.
-/
import Derived.Test.YtgjomkgbpfklkaaChecked
import GoSem.Claim
import GoSem.ClaimJoined
import GoSem.ClaimMapViews
import Derived.JoinedTies
import Derived.KernelRfl
namespace Go.Proofs.Ytgjomkgbpfklkaa
/- THE CELL 'sum', in the pinned program and in every row, IS THE sha256 OF THE DUMP (.gsa) THAT YtgjomkgbpfklkaaProg.lean LOADS. Nothing in Lean hashes anything: it is a label: what it is worth is what the hold of that sum in a sandbox is worth. -/
noncomputable def Try.pinned : Pinned := { name := "ytgjomkgbpfklkaa", sum := "0681bab5502e76340ab1af4fe993d0afd046aeb0836a1087fe26c951c2215835", checked := Try.checked }
namespace Rows
def none {H : Type} : Left H := { results := [], args := [] }

/-- 'laws.FnTxn': WHATEVER THE INPUT: true; the input reads as it did. -/
def fnTxnSpec : ChangeSpec := { name := "fnTxn", fn := fun _ => fun
  | [d1, d2] => { results := [.lit (.bool true)], args := [d1, d2] }
  | _ => none }
def fnTxnRow : OpenClaim := { program := "ytgjomkgbpfklkaa", sum := "0681bab5502e76340ab1af4fe993d0afd046aeb0836a1087fe26c951c2215835", func := "loop.example/g00643/laws.FnTxn", spec := "fnTxn", unfollowed := true, recurses := true, apart := false }
def FnTxnSaid : Prop := fnTxnRow.holds Try.pinned (OpenSpec.ofChange fnTxnSpec)

/-- ITS FALSE NEIGHBOUR: 'it returns false'. Refute it at one input. -/
def fnTxnWrong : ChangeSpec := { name := "fnTxn", fn := fun _ => fun
  | [d1, d2] => { results := [.lit (.bool false)], args := [d1, d2] }
  | _ => none }
def FnTxnWrongFalsely : Prop := fnTxnRow.holds Try.pinned (OpenSpec.ofChange fnTxnWrong)

/-- 'laws.FnExactTxnRight': WHATEVER THE INPUT: true; the input reads as it did. -/
def fnExactTxnRightSpec : ChangeSpec := { name := "fnExactTxnRight", fn := fun _ => fun
  | [d] => { results := [.lit (.bool true)], args := [d] }
  | _ => none }
def fnExactTxnRightRow : OpenClaim := { program := "ytgjomkgbpfklkaa", sum := "0681bab5502e76340ab1af4fe993d0afd046aeb0836a1087fe26c951c2215835", func := "loop.example/g00643/laws.FnExactTxnRight", spec := "fnExactTxnRight", unfollowed := true, recurses := true, apart := false }
def FnExactTxnRightSaid : Prop := fnExactTxnRightRow.holds Try.pinned (OpenSpec.ofChange fnExactTxnRightSpec)

/-- ITS FALSE NEIGHBOUR: 'it returns false'. Refute it at one input. -/
def fnExactTxnRightWrong : ChangeSpec := { name := "fnExactTxnRight", fn := fun _ => fun
  | [d] => { results := [.lit (.bool false)], args := [d] }
  | _ => none }
def FnExactTxnRightWrongFalsely : Prop := fnExactTxnRightRow.holds Try.pinned (OpenSpec.ofChange fnExactTxnRightWrong)

/-- 'laws.FnExactTxnEnd': WHATEVER THE INPUT: true; the input reads as it did. -/
def fnExactTxnEndSpec : ChangeSpec := { name := "fnExactTxnEnd", fn := fun _ => fun
  | [d1, d2] => { results := [.lit (.bool true)], args := [d1, d2] }
  | _ => none }
def fnExactTxnEndRow : OpenClaim := { program := "ytgjomkgbpfklkaa", sum := "0681bab5502e76340ab1af4fe993d0afd046aeb0836a1087fe26c951c2215835", func := "loop.example/g00643/laws.FnExactTxnEnd", spec := "fnExactTxnEnd", unfollowed := true, recurses := true, apart := false }
def FnExactTxnEndSaid : Prop := fnExactTxnEndRow.holds Try.pinned (OpenSpec.ofChange fnExactTxnEndSpec)

/-- ITS FALSE NEIGHBOUR: 'it returns false'. Refute it at one input. -/
def fnExactTxnEndWrong : ChangeSpec := { name := "fnExactTxnEnd", fn := fun _ => fun
  | [d1, d2] => { results := [.lit (.bool false)], args := [d1, d2] }
  | _ => none }
def FnExactTxnEndWrongFalsely : Prop := fnExactTxnEndRow.holds Try.pinned (OpenSpec.ofChange fnExactTxnEndWrong)

/-- 'laws.FnExactTxnTouch': WHATEVER THE INPUT: true; the input reads as it did. -/
def fnExactTxnTouchSpec : ChangeSpec := { name := "fnExactTxnTouch", fn := fun _ => fun
  | [d1, d2] => { results := [.lit (.bool true)], args := [d1, d2] }
  | _ => none }
def fnExactTxnTouchRow : OpenClaim := { program := "ytgjomkgbpfklkaa", sum := "0681bab5502e76340ab1af4fe993d0afd046aeb0836a1087fe26c951c2215835", func := "loop.example/g00643/laws.FnExactTxnTouch", spec := "fnExactTxnTouch", unfollowed := true, recurses := true, apart := false }
def FnExactTxnTouchSaid : Prop := fnExactTxnTouchRow.holds Try.pinned (OpenSpec.ofChange fnExactTxnTouchSpec)

/-- ITS FALSE NEIGHBOUR: 'it returns false'. Refute it at one input. -/
def fnExactTxnTouchWrong : ChangeSpec := { name := "fnExactTxnTouch", fn := fun _ => fun
  | [d1, d2] => { results := [.lit (.bool false)], args := [d1, d2] }
  | _ => none }
def FnExactTxnTouchWrongFalsely : Prop := fnExactTxnTouchRow.holds Try.pinned (OpenSpec.ofChange fnExactTxnTouchWrong)

/- THE SECOND FORM. 'bulk': how many values and letters a reading holds, each counted each time it is reached (what is shared counts as often as it is met; a slice's spare places count too). A statement '..UptoSaid' is the law's where the arguments, and the package variables that the reading takes, are together of bulk at most 1048576: NARROWER than '..Said'. Prove '..Said' where nothing that the law and all that it calls make is longer than what came in: it says more and counts as full. Else prove '..UptoSaid'. A law counts once. -/
mutual
def uptoBulk {H : Type} : DataW H → Nat
  | .lit (.string bytes) => bytes.length + 1
  | .lit _ => 1
  | .nil => 1
  | .ptr d => uptoBulk d + 1
  | .slice elems spare => uptoBulkAll elems + uptoBulkAll spare + 1
  | .agg parts => uptoBulkAll parts + 1
  | .iface _ d => uptoBulk d + 1
  | .map entries => uptoBulkEntries entries + 1
  | .held _ => 1
def uptoBulkAll {H : Type} : List (DataW H) → Nat
  | [] => 0
  | d :: r => uptoBulk d + uptoBulkAll r
def uptoBulkEntries {H : Type} : List (Lit × DataW H) → Nat
  | [] => 0
  | x :: r => uptoBulkEntry x + uptoBulkEntries r
def uptoBulkEntry {H : Type} : Lit × DataW H → Nat
  | (.string bytes, d) => bytes.length + uptoBulk d + 1
  | (_, d) => uptoBulk d + 1
 end
def uptoSmall : (H : Type) → List (DataW H) → Bool := fun _ ds => decide (uptoBulkAll ds ≤ 1048576)
def OpenSpec.upto (s : _root_.Go.ChangeSpec) : _root_.Go.OpenSpec := { _root_.Go.OpenSpec.ofChange s with cond := some uptoSmall }

/-- 'laws.FnTxn', WHERE WHAT IT READS IS OF BULK AT MOST 1048576: true; the input reads as it did. -/
def fnTxnUptoRow : OpenClaim := { program := "ytgjomkgbpfklkaa", sum := "0681bab5502e76340ab1af4fe993d0afd046aeb0836a1087fe26c951c2215835", func := "loop.example/g00643/laws.FnTxn", spec := "fnTxn", unfollowed := true, recurses := true, apart := false, narrowed := true }
def FnTxnUptoSaid : Prop := fnTxnUptoRow.holds Try.pinned (OpenSpec.upto fnTxnSpec)

/-- 'laws.FnExactTxnRight', WHERE WHAT IT READS IS OF BULK AT MOST 1048576: true; the input reads as it did. -/
def fnExactTxnRightUptoRow : OpenClaim := { program := "ytgjomkgbpfklkaa", sum := "0681bab5502e76340ab1af4fe993d0afd046aeb0836a1087fe26c951c2215835", func := "loop.example/g00643/laws.FnExactTxnRight", spec := "fnExactTxnRight", unfollowed := true, recurses := true, apart := false, narrowed := true }
def FnExactTxnRightUptoSaid : Prop := fnExactTxnRightUptoRow.holds Try.pinned (OpenSpec.upto fnExactTxnRightSpec)

/-- 'laws.FnExactTxnEnd', WHERE WHAT IT READS IS OF BULK AT MOST 1048576: true; the input reads as it did. -/
def fnExactTxnEndUptoRow : OpenClaim := { program := "ytgjomkgbpfklkaa", sum := "0681bab5502e76340ab1af4fe993d0afd046aeb0836a1087fe26c951c2215835", func := "loop.example/g00643/laws.FnExactTxnEnd", spec := "fnExactTxnEnd", unfollowed := true, recurses := true, apart := false, narrowed := true }
def FnExactTxnEndUptoSaid : Prop := fnExactTxnEndUptoRow.holds Try.pinned (OpenSpec.upto fnExactTxnEndSpec)

/-- 'laws.FnExactTxnTouch', WHERE WHAT IT READS IS OF BULK AT MOST 1048576: true; the input reads as it did. -/
def fnExactTxnTouchUptoRow : OpenClaim := { program := "ytgjomkgbpfklkaa", sum := "0681bab5502e76340ab1af4fe993d0afd046aeb0836a1087fe26c951c2215835", func := "loop.example/g00643/laws.FnExactTxnTouch", spec := "fnExactTxnTouch", unfollowed := true, recurses := true, apart := false, narrowed := true }
def FnExactTxnTouchUptoSaid : Prop := fnExactTxnTouchUptoRow.holds Try.pinned (OpenSpec.upto fnExactTxnTouchSpec)

end Rows
end Go.Proofs.Ytgjomkgbpfklkaa
