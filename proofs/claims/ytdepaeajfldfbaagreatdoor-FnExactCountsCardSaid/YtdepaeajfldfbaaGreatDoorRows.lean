/-
  NARROWER THAN 'FOR EVERY INPUT', by the rows' own cells (each row's printed sentence says how): FnExactFabricRight: ifaces, laid · FnExactOpenOf: ifaces, laid · FnExactOwed: ifaces, laid · FnExactInit: ifaces, laid · FnExactStable: ifaces, laid · FnExactCounts: ifaces, laid.
  DERIVED. THE GIVEN ROWS OF THIS SEAT. 6 by the template 'for every input the law returns true; each argument reads behind the call as it read before'; 0 by the template 'total and deterministic' (their statements: YtdepaeajfldfbaaGreatDoorTotals.lean).
  GIVEN WITH THE SEED: the statements are not yours to turn. If you find one false, say at which input.
  Laid BY PROGRAM, IN A SANDBOX (cutbox-rows.mjs): the forced cells as the released guide's own fill.sh prints them over the translation a5c81e497fc8e317… (all of the seat's roots in one cut). By AI agents, Wed Nov 11 2026. No macro, syntax, notation, axiom, sorry.
-/
import Derived.Test.YtdepaeajfldfbaaGreatDoorChecked
import GoSem.PinnedTables
import GoSem.Claim
import GoSem.ClaimJoined
import GoSem.ClaimMapViews
import Derived.JoinedTies
import Derived.KernelRfl
namespace Go.Proofs.YtdepaeajfldfbaaGreatDoor
/- THE CELL 'sum', in the pinned program and in every row, IS THE sha256 OF THE DUMP (.gsa) THAT YtdepaeajfldfbaaGreatDoorProg.lean LOADS. Nothing in Lean hashes anything: it is a label: what it is worth is what the hold of that sum in a sandbox is worth. -/
noncomputable def Tryz.pinned : Pinned := { name := "ytdepaeajfldfbaagreatdoor", sum := "a5c81e497fc8e3175eb06819baefbdf19136ec42d2b01d29fe020e4e35e56dbf", checked := Tryz.checked }
namespace Rows
def none {H : Type} : Left H := { results := [], args := [] }

/- WHAT THE LISTED PACKAGE-LEVEL VARIABLES READ AS WHEN THE CALL BEGINS. Each datum BY PROGRAM (the guide's laid-datum.mjs) off the statement by which the dump's own 'gosem.cut.vars' lays the variable. In a bare row this is a premise. The card (YtdepaeajfldfbaaGreatDoorCards.lean) ties it to the program's text. -/
def laid_unicode_utf8_acceptRanges {H : Type} : DataW H := .agg [.agg [.lit (.int .u8 128), .lit (.int .u8 191)], .agg [.lit (.int .u8 160), .lit (.int .u8 191)], .agg [.lit (.int .u8 128), .lit (.int .u8 159)], .agg [.lit (.int .u8 144), .lit (.int .u8 191)], .agg [.lit (.int .u8 128), .lit (.int .u8 143)], .agg [.lit (.int .u8 0), .lit (.int .u8 0)], .agg [.lit (.int .u8 0), .lit (.int .u8 0)], .agg [.lit (.int .u8 0), .lit (.int .u8 0)], .agg [.lit (.int .u8 0), .lit (.int .u8 0)], .agg [.lit (.int .u8 0), .lit (.int .u8 0)], .agg [.lit (.int .u8 0), .lit (.int .u8 0)], .agg [.lit (.int .u8 0), .lit (.int .u8 0)], .agg [.lit (.int .u8 0), .lit (.int .u8 0)], .agg [.lit (.int .u8 0), .lit (.int .u8 0)], .agg [.lit (.int .u8 0), .lit (.int .u8 0)], .agg [.lit (.int .u8 0), .lit (.int .u8 0)]]
def laid_loop_example_g00643_impl_errNotRight {H : Type} : DataW H := .iface "*errors.errorString" (.ptr (.agg [.lit (.string [119, 104, 97, 116, 32, 119, 97, 115, 32, 104, 97, 110, 100, 101, 100, 32, 105, 110, 32, 105, 115, 32, 110, 111, 116, 32, 114, 105, 103, 104, 116])]))
/-- One of Go's own tables, pinned by name: the form's constant. -/
def laid_unicode_utf8_first : DataW Unit := Go.Pinned.utf8First
def laid_loop_example_g00643_impl_errState {H : Type} : DataW H := .iface "*errors.errorString" (.ptr (.agg [.lit (.string [119, 104, 97, 116, 32, 116, 104, 101, 32, 112, 114, 111, 100, 117, 99, 101, 114, 32, 104, 97, 115, 32, 111, 112, 101, 110, 32, 100, 111, 101, 115, 32, 110, 111, 116, 32, 102, 105, 116])]))
def laid_errors_errorType {H : Type} : DataW H := .iface "internal/reflectlite.rtype" (.agg [.ptr (.lit (.string [101, 114, 114, 111, 114]))])
def laid_loop_example_g00643_impl_errFenced {H : Type} : DataW H := .iface "*errors.errorString" (.ptr (.agg [.lit (.string [116, 104, 101, 32, 112, 114, 111, 100, 117, 99, 101, 114, 32, 105, 115, 32, 110, 111, 116, 32, 104, 101, 97, 114, 100, 32, 98, 121, 32, 116, 104, 97, 116, 32, 101, 112, 111, 99, 104])]))
def laid_loop_example_g00643_impl_errNoRing {H : Type} : DataW H := .iface "*errors.errorString" (.ptr (.agg [.lit (.string [116, 104, 101, 114, 101, 32, 105, 115, 32, 110, 111, 32, 115, 117, 99, 104, 32, 114, 105, 110, 103])]))
def laid_loop_example_g00643_impl_errNoRoom {H : Type} : DataW H := .iface "*errors.errorString" (.ptr (.agg [.lit (.string [116, 104, 101, 114, 101, 32, 105, 115, 32, 110, 111, 32, 114, 111, 111, 109])]))
def laid_loop_example_g00643_impl_errNoneLeft {H : Type} : DataW H := .iface "*errors.errorString" (.ptr (.agg [.lit (.string [110, 111, 116, 104, 105, 110, 103, 32, 105, 115, 32, 108, 101, 102, 116, 32, 116, 111, 32, 98, 101, 32, 115, 97, 105, 100])]))

/-- 'laws.FnExactFabricRight': WHATEVER THE INPUT: true; the input reads as it did. -/
def fnExactFabricRightSpec : ChangeSpec := { name := "fnExactFabricRight", vars := ["loop.example/g00643/impl.errNotRight"], fn := fun _ => fun
  | [d, g1] => { results := [.lit (.bool true)], args := [d], vars := [g1] }
  | _ => none }
def fnExactFabricRightRow : OpenClaim := { program := "ytdepaeajfldfbaagreatdoor", sum := "a5c81e497fc8e3175eb06819baefbdf19136ec42d2b01d29fe020e4e35e56dbf", func := "loop.example/g00643/laws.FnExactFabricRight", spec := "fnExactFabricRight", inPlace := ["sync/atomic.LoadUint32", "(*internal/sync.Mutex).Lock", "internal/race.Disable", "sync/atomic.CompareAndSwapInt32", "internal/race.Enable", "internal/race.Acquire", "(*internal/sync.Mutex).lockSlow", "internal/sync.runtime_canSpin", "internal/sync.runtime_doSpin", "internal/sync.throw", "internal/sync.runtime_nanotime", "internal/sync.runtime_SemacquireMutex", "sync/atomic.AddInt32", "(*internal/sync.Mutex).Unlock", "internal/race.ReleaseMerge", "(*internal/sync.Mutex).unlockSlow", "internal/sync.fatal", "internal/sync.runtime_Semrelease", "sync/atomic.StoreUint32"], unfollowed := true, recurses := true, named := ["loop.example/g00643/impl.errNotRight", "unicode/utf8.first", "unicode/utf8.acceptRanges"], ifaces := true, apart := false, laid := [("unicode/utf8.acceptRanges", laid_unicode_utf8_acceptRanges), ("loop.example/g00643/impl.errNotRight", laid_loop_example_g00643_impl_errNotRight), ("unicode/utf8.first", laid_unicode_utf8_first)] }
def FnExactFabricRightSaid : Prop := fnExactFabricRightRow.holds Tryz.pinned (OpenSpec.ofChange fnExactFabricRightSpec)

/-- ITS FALSE NEIGHBOUR: 'it returns false'. Refute it at one input. -/
def fnExactFabricRightWrong : ChangeSpec := { name := "fnExactFabricRight", vars := ["loop.example/g00643/impl.errNotRight"], fn := fun _ => fun
  | [d, g1] => { results := [.lit (.bool false)], args := [d], vars := [g1] }
  | _ => none }
def FnExactFabricRightWrongFalsely : Prop := fnExactFabricRightRow.holds Tryz.pinned (OpenSpec.ofChange fnExactFabricRightWrong)

/-- 'laws.FnExactOpenOf': WHATEVER THE INPUT: true; the input reads as it did. -/
def fnExactOpenOfSpec : ChangeSpec := { name := "fnExactOpenOf", vars := ["loop.example/g00643/impl.errNotRight", "loop.example/g00643/impl.errState"], fn := fun _ => fun
  | [d1, d2, g1, g2] => { results := [.lit (.bool true)], args := [d1, d2], vars := [g1, g2] }
  | _ => none }
def fnExactOpenOfRow : OpenClaim := { program := "ytdepaeajfldfbaagreatdoor", sum := "a5c81e497fc8e3175eb06819baefbdf19136ec42d2b01d29fe020e4e35e56dbf", func := "loop.example/g00643/laws.FnExactOpenOf", spec := "fnExactOpenOf", inPlace := ["sync/atomic.LoadUint32", "(*internal/sync.Mutex).Lock", "internal/race.Disable", "sync/atomic.CompareAndSwapInt32", "internal/race.Enable", "internal/race.Acquire", "(*internal/sync.Mutex).lockSlow", "internal/sync.runtime_canSpin", "internal/sync.runtime_doSpin", "internal/sync.throw", "internal/sync.runtime_nanotime", "internal/sync.runtime_SemacquireMutex", "sync/atomic.AddInt32", "(*internal/sync.Mutex).Unlock", "internal/race.ReleaseMerge", "(*internal/sync.Mutex).unlockSlow", "internal/sync.fatal", "internal/sync.runtime_Semrelease", "sync/atomic.StoreUint32"], unfollowed := true, recurses := true, named := ["loop.example/g00643/impl.errNotRight", "unicode/utf8.first", "unicode/utf8.acceptRanges", "loop.example/g00643/impl.errState"], ifaces := true, apart := false, laid := [("unicode/utf8.acceptRanges", laid_unicode_utf8_acceptRanges), ("loop.example/g00643/impl.errNotRight", laid_loop_example_g00643_impl_errNotRight), ("loop.example/g00643/impl.errState", laid_loop_example_g00643_impl_errState), ("unicode/utf8.first", laid_unicode_utf8_first)] }
def FnExactOpenOfSaid : Prop := fnExactOpenOfRow.holds Tryz.pinned (OpenSpec.ofChange fnExactOpenOfSpec)

/-- ITS FALSE NEIGHBOUR: 'it returns false'. Refute it at one input. -/
def fnExactOpenOfWrong : ChangeSpec := { name := "fnExactOpenOf", vars := ["loop.example/g00643/impl.errNotRight", "loop.example/g00643/impl.errState"], fn := fun _ => fun
  | [d1, d2, g1, g2] => { results := [.lit (.bool false)], args := [d1, d2], vars := [g1, g2] }
  | _ => none }
def FnExactOpenOfWrongFalsely : Prop := fnExactOpenOfRow.holds Tryz.pinned (OpenSpec.ofChange fnExactOpenOfWrong)

/-- 'laws.FnExactOwed': WHATEVER THE INPUT: true; the input reads as it did. -/
def fnExactOwedSpec : ChangeSpec := { name := "fnExactOwed", vars := ["loop.example/g00643/impl.errNotRight"], fn := fun _ => fun
  | [d1, d2, g1] => { results := [.lit (.bool true)], args := [d1, d2], vars := [g1] }
  | _ => none }
def fnExactOwedRow : OpenClaim := { program := "ytdepaeajfldfbaagreatdoor", sum := "a5c81e497fc8e3175eb06819baefbdf19136ec42d2b01d29fe020e4e35e56dbf", func := "loop.example/g00643/laws.FnExactOwed", spec := "fnExactOwed", inPlace := ["sync/atomic.LoadUint32", "(*internal/sync.Mutex).Lock", "internal/race.Disable", "sync/atomic.CompareAndSwapInt32", "internal/race.Enable", "internal/race.Acquire", "(*internal/sync.Mutex).lockSlow", "internal/sync.runtime_canSpin", "internal/sync.runtime_doSpin", "internal/sync.throw", "internal/sync.runtime_nanotime", "internal/sync.runtime_SemacquireMutex", "sync/atomic.AddInt32", "(*internal/sync.Mutex).Unlock", "internal/race.ReleaseMerge", "(*internal/sync.Mutex).unlockSlow", "internal/sync.fatal", "internal/sync.runtime_Semrelease", "sync/atomic.StoreUint32"], unfollowed := true, recurses := true, named := ["loop.example/g00643/impl.errNotRight", "unicode/utf8.first", "unicode/utf8.acceptRanges"], ifaces := true, apart := false, laid := [("unicode/utf8.acceptRanges", laid_unicode_utf8_acceptRanges), ("loop.example/g00643/impl.errNotRight", laid_loop_example_g00643_impl_errNotRight), ("unicode/utf8.first", laid_unicode_utf8_first)] }
def FnExactOwedSaid : Prop := fnExactOwedRow.holds Tryz.pinned (OpenSpec.ofChange fnExactOwedSpec)

/-- ITS FALSE NEIGHBOUR: 'it returns false'. Refute it at one input. -/
def fnExactOwedWrong : ChangeSpec := { name := "fnExactOwed", vars := ["loop.example/g00643/impl.errNotRight"], fn := fun _ => fun
  | [d1, d2, g1] => { results := [.lit (.bool false)], args := [d1, d2], vars := [g1] }
  | _ => none }
def FnExactOwedWrongFalsely : Prop := fnExactOwedRow.holds Tryz.pinned (OpenSpec.ofChange fnExactOwedWrong)

/-- 'laws.FnExactInit': WHATEVER THE INPUT: true; the input reads as it did. -/
def fnExactInitSpec : ChangeSpec := { name := "fnExactInit", vars := ["loop.example/g00643/impl.errNotRight", "loop.example/g00643/impl.errNoRoom", "loop.example/g00643/impl.errState", "loop.example/g00643/impl.errFenced", "loop.example/g00643/impl.errNoRing", "loop.example/g00643/impl.errNoneLeft"], fn := fun _ => fun
  | [d1, d2, g1, g2, g3, g4, g5, g6] => { results := [.lit (.bool true)], args := [d1, d2], vars := [g1, g2, g3, g4, g5, g6] }
  | _ => none }
def fnExactInitRow : OpenClaim := { program := "ytdepaeajfldfbaagreatdoor", sum := "a5c81e497fc8e3175eb06819baefbdf19136ec42d2b01d29fe020e4e35e56dbf", func := "loop.example/g00643/laws.FnExactInit", spec := "fnExactInit", inPlace := ["sync/atomic.LoadUint32", "(*internal/sync.Mutex).Lock", "internal/race.Disable", "sync/atomic.CompareAndSwapInt32", "internal/race.Enable", "internal/race.Acquire", "(*internal/sync.Mutex).lockSlow", "internal/sync.runtime_canSpin", "internal/sync.runtime_doSpin", "internal/sync.throw", "internal/sync.runtime_nanotime", "internal/sync.runtime_SemacquireMutex", "sync/atomic.AddInt32", "(*internal/sync.Mutex).Unlock", "internal/race.ReleaseMerge", "(*internal/sync.Mutex).unlockSlow", "internal/sync.fatal", "internal/sync.runtime_Semrelease", "sync/atomic.StoreUint32", "internal/reflectlite.ValueOf", "(internal/reflectlite.Value).Type", "(internal/reflectlite.Value).IsNil", "internal/reflectlite.TypeOf", "(internal/reflectlite.Value).Elem", "(internal/reflectlite.Value).Set", "sync/atomic.LoadInt64"], unfollowed := true, recurses := true, named := ["loop.example/g00643/impl.errNotRight", "loop.example/g00643/impl.errNoRoom", "loop.example/g00643/impl.errState", "unicode/utf8.first", "unicode/utf8.acceptRanges", "loop.example/g00643/impl.errFenced", "loop.example/g00643/impl.errNoRing", "loop.example/g00643/impl.errNoneLeft", "errors.errorType"], ifaces := true, apart := false, laid := [("unicode/utf8.acceptRanges", laid_unicode_utf8_acceptRanges), ("errors.errorType", laid_errors_errorType), ("loop.example/g00643/impl.errNotRight", laid_loop_example_g00643_impl_errNotRight), ("loop.example/g00643/impl.errFenced", laid_loop_example_g00643_impl_errFenced), ("loop.example/g00643/impl.errNoRing", laid_loop_example_g00643_impl_errNoRing), ("loop.example/g00643/impl.errState", laid_loop_example_g00643_impl_errState), ("loop.example/g00643/impl.errNoRoom", laid_loop_example_g00643_impl_errNoRoom), ("loop.example/g00643/impl.errNoneLeft", laid_loop_example_g00643_impl_errNoneLeft), ("unicode/utf8.first", laid_unicode_utf8_first)] }
def FnExactInitSaid : Prop := fnExactInitRow.holds Tryz.pinned (OpenSpec.ofChange fnExactInitSpec)

/-- ITS FALSE NEIGHBOUR: 'it returns false'. Refute it at one input. -/
def fnExactInitWrong : ChangeSpec := { name := "fnExactInit", vars := ["loop.example/g00643/impl.errNotRight", "loop.example/g00643/impl.errNoRoom", "loop.example/g00643/impl.errState", "loop.example/g00643/impl.errFenced", "loop.example/g00643/impl.errNoRing", "loop.example/g00643/impl.errNoneLeft"], fn := fun _ => fun
  | [d1, d2, g1, g2, g3, g4, g5, g6] => { results := [.lit (.bool false)], args := [d1, d2], vars := [g1, g2, g3, g4, g5, g6] }
  | _ => none }
def FnExactInitWrongFalsely : Prop := fnExactInitRow.holds Tryz.pinned (OpenSpec.ofChange fnExactInitWrong)

/-- 'laws.FnExactStable': WHATEVER THE INPUT: true; the input reads as it did. -/
def fnExactStableSpec : ChangeSpec := { name := "fnExactStable", vars := ["loop.example/g00643/impl.errNoRing", "loop.example/g00643/impl.errNotRight"], fn := fun _ => fun
  | [d1, d2, g1, g2] => { results := [.lit (.bool true)], args := [d1, d2], vars := [g1, g2] }
  | _ => none }
def fnExactStableRow : OpenClaim := { program := "ytdepaeajfldfbaagreatdoor", sum := "a5c81e497fc8e3175eb06819baefbdf19136ec42d2b01d29fe020e4e35e56dbf", func := "loop.example/g00643/laws.FnExactStable", spec := "fnExactStable", inPlace := ["sync/atomic.LoadUint32", "(*internal/sync.Mutex).Lock", "internal/race.Disable", "sync/atomic.CompareAndSwapInt32", "internal/race.Enable", "internal/race.Acquire", "(*internal/sync.Mutex).lockSlow", "internal/sync.runtime_canSpin", "internal/sync.runtime_doSpin", "internal/sync.throw", "internal/sync.runtime_nanotime", "internal/sync.runtime_SemacquireMutex", "sync/atomic.AddInt32", "(*internal/sync.Mutex).Unlock", "internal/race.ReleaseMerge", "(*internal/sync.Mutex).unlockSlow", "internal/sync.fatal", "internal/sync.runtime_Semrelease", "sync/atomic.StoreUint32"], unfollowed := true, recurses := true, named := ["loop.example/g00643/impl.errNoRing", "loop.example/g00643/impl.errNotRight", "unicode/utf8.first", "unicode/utf8.acceptRanges"], ifaces := true, apart := false, laid := [("unicode/utf8.acceptRanges", laid_unicode_utf8_acceptRanges), ("loop.example/g00643/impl.errNotRight", laid_loop_example_g00643_impl_errNotRight), ("loop.example/g00643/impl.errNoRing", laid_loop_example_g00643_impl_errNoRing), ("unicode/utf8.first", laid_unicode_utf8_first)] }
def FnExactStableSaid : Prop := fnExactStableRow.holds Tryz.pinned (OpenSpec.ofChange fnExactStableSpec)

/-- ITS FALSE NEIGHBOUR: 'it returns false'. Refute it at one input. -/
def fnExactStableWrong : ChangeSpec := { name := "fnExactStable", vars := ["loop.example/g00643/impl.errNoRing", "loop.example/g00643/impl.errNotRight"], fn := fun _ => fun
  | [d1, d2, g1, g2] => { results := [.lit (.bool false)], args := [d1, d2], vars := [g1, g2] }
  | _ => none }
def FnExactStableWrongFalsely : Prop := fnExactStableRow.holds Tryz.pinned (OpenSpec.ofChange fnExactStableWrong)

/-- 'laws.FnExactCounts': WHATEVER THE INPUT: true; the input reads as it did. -/
def fnExactCountsSpec : ChangeSpec := { name := "fnExactCounts", vars := ["loop.example/g00643/impl.errNoRing", "loop.example/g00643/impl.errNotRight"], fn := fun _ => fun
  | [d1, d2, d3, g1, g2] => { results := [.lit (.bool true)], args := [d1, d2, d3], vars := [g1, g2] }
  | _ => none }
def fnExactCountsRow : OpenClaim := { program := "ytdepaeajfldfbaagreatdoor", sum := "a5c81e497fc8e3175eb06819baefbdf19136ec42d2b01d29fe020e4e35e56dbf", func := "loop.example/g00643/laws.FnExactCounts", spec := "fnExactCounts", inPlace := ["sync/atomic.LoadUint32", "(*internal/sync.Mutex).Lock", "internal/race.Disable", "sync/atomic.CompareAndSwapInt32", "internal/race.Enable", "internal/race.Acquire", "(*internal/sync.Mutex).lockSlow", "internal/sync.runtime_canSpin", "internal/sync.runtime_doSpin", "internal/sync.throw", "internal/sync.runtime_nanotime", "internal/sync.runtime_SemacquireMutex", "sync/atomic.AddInt32", "(*internal/sync.Mutex).Unlock", "internal/race.ReleaseMerge", "(*internal/sync.Mutex).unlockSlow", "internal/sync.fatal", "internal/sync.runtime_Semrelease", "sync/atomic.StoreUint32"], unfollowed := true, recurses := true, named := ["loop.example/g00643/impl.errNoRing", "loop.example/g00643/impl.errNotRight", "unicode/utf8.first", "unicode/utf8.acceptRanges"], ifaces := true, apart := false, laid := [("unicode/utf8.acceptRanges", laid_unicode_utf8_acceptRanges), ("loop.example/g00643/impl.errNotRight", laid_loop_example_g00643_impl_errNotRight), ("loop.example/g00643/impl.errNoRing", laid_loop_example_g00643_impl_errNoRing), ("unicode/utf8.first", laid_unicode_utf8_first)] }
def FnExactCountsSaid : Prop := fnExactCountsRow.holds Tryz.pinned (OpenSpec.ofChange fnExactCountsSpec)

/-- ITS FALSE NEIGHBOUR: 'it returns false'. Refute it at one input. -/
def fnExactCountsWrong : ChangeSpec := { name := "fnExactCounts", vars := ["loop.example/g00643/impl.errNoRing", "loop.example/g00643/impl.errNotRight"], fn := fun _ => fun
  | [d1, d2, d3, g1, g2] => { results := [.lit (.bool false)], args := [d1, d2, d3], vars := [g1, g2] }
  | _ => none }
def FnExactCountsWrongFalsely : Prop := fnExactCountsRow.holds Tryz.pinned (OpenSpec.ofChange fnExactCountsWrong)

/- THE SECOND FORM. 'bulk': how many values and letters a reading holds, each counted each time it is reached (what is shared counts as often as it is met; a slice's spare places count too). A statement '..UptoSaid' is the law's where the arguments, and the package variables that the reading takes, are together of bulk at most 1048576: NARROWER than '..Said'. Prove '..Said' where nothing that the law and all that it calls make is longer than what came in: it says more and counts as full. Else prove '..UptoSaid'. A law counts once. -/
mutual
def uptoBulk {H : Type} : DataW H → Nat
  | .lit (.string bytes) => bytes.length + 1
  | .lit _ => 1
  | .nil => 1
  | .ptr d => uptoBulk d + 1
  | .slice elems spare => uptoBulkAll elems + uptoBulkAll spare + 1
  | .agg parts => uptoBulkAll parts + 1
  | .iface _ d => uptoBulk d + 1
  | .map entries => uptoBulkEntries entries + 1
  | .held _ => 1
def uptoBulkAll {H : Type} : List (DataW H) → Nat
  | [] => 0
  | d :: r => uptoBulk d + uptoBulkAll r
def uptoBulkEntries {H : Type} : List (Lit × DataW H) → Nat
  | [] => 0
  | x :: r => uptoBulkEntry x + uptoBulkEntries r
def uptoBulkEntry {H : Type} : Lit × DataW H → Nat
  | (.string bytes, d) => bytes.length + uptoBulk d + 1
  | (_, d) => uptoBulk d + 1
 end
def uptoSmall : (H : Type) → List (DataW H) → Bool := fun _ ds => decide (uptoBulkAll ds ≤ 1048576)
def OpenSpec.upto (s : _root_.Go.ChangeSpec) : _root_.Go.OpenSpec := { _root_.Go.OpenSpec.ofChange s with cond := some uptoSmall }

/-- 'laws.FnExactFabricRight', WHERE WHAT IT READS IS OF BULK AT MOST 1048576: true; the input reads as it did. -/
def fnExactFabricRightUptoRow : OpenClaim := { program := "ytdepaeajfldfbaagreatdoor", sum := "a5c81e497fc8e3175eb06819baefbdf19136ec42d2b01d29fe020e4e35e56dbf", func := "loop.example/g00643/laws.FnExactFabricRight", spec := "fnExactFabricRight", inPlace := ["sync/atomic.LoadUint32", "(*internal/sync.Mutex).Lock", "internal/race.Disable", "sync/atomic.CompareAndSwapInt32", "internal/race.Enable", "internal/race.Acquire", "(*internal/sync.Mutex).lockSlow", "internal/sync.runtime_canSpin", "internal/sync.runtime_doSpin", "internal/sync.throw", "internal/sync.runtime_nanotime", "internal/sync.runtime_SemacquireMutex", "sync/atomic.AddInt32", "(*internal/sync.Mutex).Unlock", "internal/race.ReleaseMerge", "(*internal/sync.Mutex).unlockSlow", "internal/sync.fatal", "internal/sync.runtime_Semrelease", "sync/atomic.StoreUint32"], unfollowed := true, recurses := true, named := ["loop.example/g00643/impl.errNotRight", "unicode/utf8.first", "unicode/utf8.acceptRanges"], ifaces := true, apart := false, laid := [("unicode/utf8.acceptRanges", laid_unicode_utf8_acceptRanges), ("loop.example/g00643/impl.errNotRight", laid_loop_example_g00643_impl_errNotRight), ("unicode/utf8.first", laid_unicode_utf8_first)], narrowed := true }
def FnExactFabricRightUptoSaid : Prop := fnExactFabricRightUptoRow.holds Tryz.pinned (OpenSpec.upto fnExactFabricRightSpec)

/-- 'laws.FnExactOpenOf', WHERE WHAT IT READS IS OF BULK AT MOST 1048576: true; the input reads as it did. -/
def fnExactOpenOfUptoRow : OpenClaim := { program := "ytdepaeajfldfbaagreatdoor", sum := "a5c81e497fc8e3175eb06819baefbdf19136ec42d2b01d29fe020e4e35e56dbf", func := "loop.example/g00643/laws.FnExactOpenOf", spec := "fnExactOpenOf", inPlace := ["sync/atomic.LoadUint32", "(*internal/sync.Mutex).Lock", "internal/race.Disable", "sync/atomic.CompareAndSwapInt32", "internal/race.Enable", "internal/race.Acquire", "(*internal/sync.Mutex).lockSlow", "internal/sync.runtime_canSpin", "internal/sync.runtime_doSpin", "internal/sync.throw", "internal/sync.runtime_nanotime", "internal/sync.runtime_SemacquireMutex", "sync/atomic.AddInt32", "(*internal/sync.Mutex).Unlock", "internal/race.ReleaseMerge", "(*internal/sync.Mutex).unlockSlow", "internal/sync.fatal", "internal/sync.runtime_Semrelease", "sync/atomic.StoreUint32"], unfollowed := true, recurses := true, named := ["loop.example/g00643/impl.errNotRight", "unicode/utf8.first", "unicode/utf8.acceptRanges", "loop.example/g00643/impl.errState"], ifaces := true, apart := false, laid := [("unicode/utf8.acceptRanges", laid_unicode_utf8_acceptRanges), ("loop.example/g00643/impl.errNotRight", laid_loop_example_g00643_impl_errNotRight), ("loop.example/g00643/impl.errState", laid_loop_example_g00643_impl_errState), ("unicode/utf8.first", laid_unicode_utf8_first)], narrowed := true }
def FnExactOpenOfUptoSaid : Prop := fnExactOpenOfUptoRow.holds Tryz.pinned (OpenSpec.upto fnExactOpenOfSpec)

/-- 'laws.FnExactOwed', WHERE WHAT IT READS IS OF BULK AT MOST 1048576: true; the input reads as it did. -/
def fnExactOwedUptoRow : OpenClaim := { program := "ytdepaeajfldfbaagreatdoor", sum := "a5c81e497fc8e3175eb06819baefbdf19136ec42d2b01d29fe020e4e35e56dbf", func := "loop.example/g00643/laws.FnExactOwed", spec := "fnExactOwed", inPlace := ["sync/atomic.LoadUint32", "(*internal/sync.Mutex).Lock", "internal/race.Disable", "sync/atomic.CompareAndSwapInt32", "internal/race.Enable", "internal/race.Acquire", "(*internal/sync.Mutex).lockSlow", "internal/sync.runtime_canSpin", "internal/sync.runtime_doSpin", "internal/sync.throw", "internal/sync.runtime_nanotime", "internal/sync.runtime_SemacquireMutex", "sync/atomic.AddInt32", "(*internal/sync.Mutex).Unlock", "internal/race.ReleaseMerge", "(*internal/sync.Mutex).unlockSlow", "internal/sync.fatal", "internal/sync.runtime_Semrelease", "sync/atomic.StoreUint32"], unfollowed := true, recurses := true, named := ["loop.example/g00643/impl.errNotRight", "unicode/utf8.first", "unicode/utf8.acceptRanges"], ifaces := true, apart := false, laid := [("unicode/utf8.acceptRanges", laid_unicode_utf8_acceptRanges), ("loop.example/g00643/impl.errNotRight", laid_loop_example_g00643_impl_errNotRight), ("unicode/utf8.first", laid_unicode_utf8_first)], narrowed := true }
def FnExactOwedUptoSaid : Prop := fnExactOwedUptoRow.holds Tryz.pinned (OpenSpec.upto fnExactOwedSpec)

/-- 'laws.FnExactInit', WHERE WHAT IT READS IS OF BULK AT MOST 1048576: true; the input reads as it did. -/
def fnExactInitUptoRow : OpenClaim := { program := "ytdepaeajfldfbaagreatdoor", sum := "a5c81e497fc8e3175eb06819baefbdf19136ec42d2b01d29fe020e4e35e56dbf", func := "loop.example/g00643/laws.FnExactInit", spec := "fnExactInit", inPlace := ["sync/atomic.LoadUint32", "(*internal/sync.Mutex).Lock", "internal/race.Disable", "sync/atomic.CompareAndSwapInt32", "internal/race.Enable", "internal/race.Acquire", "(*internal/sync.Mutex).lockSlow", "internal/sync.runtime_canSpin", "internal/sync.runtime_doSpin", "internal/sync.throw", "internal/sync.runtime_nanotime", "internal/sync.runtime_SemacquireMutex", "sync/atomic.AddInt32", "(*internal/sync.Mutex).Unlock", "internal/race.ReleaseMerge", "(*internal/sync.Mutex).unlockSlow", "internal/sync.fatal", "internal/sync.runtime_Semrelease", "sync/atomic.StoreUint32", "internal/reflectlite.ValueOf", "(internal/reflectlite.Value).Type", "(internal/reflectlite.Value).IsNil", "internal/reflectlite.TypeOf", "(internal/reflectlite.Value).Elem", "(internal/reflectlite.Value).Set", "sync/atomic.LoadInt64"], unfollowed := true, recurses := true, named := ["loop.example/g00643/impl.errNotRight", "loop.example/g00643/impl.errNoRoom", "loop.example/g00643/impl.errState", "unicode/utf8.first", "unicode/utf8.acceptRanges", "loop.example/g00643/impl.errFenced", "loop.example/g00643/impl.errNoRing", "loop.example/g00643/impl.errNoneLeft", "errors.errorType"], ifaces := true, apart := false, laid := [("unicode/utf8.acceptRanges", laid_unicode_utf8_acceptRanges), ("errors.errorType", laid_errors_errorType), ("loop.example/g00643/impl.errNotRight", laid_loop_example_g00643_impl_errNotRight), ("loop.example/g00643/impl.errFenced", laid_loop_example_g00643_impl_errFenced), ("loop.example/g00643/impl.errNoRing", laid_loop_example_g00643_impl_errNoRing), ("loop.example/g00643/impl.errState", laid_loop_example_g00643_impl_errState), ("loop.example/g00643/impl.errNoRoom", laid_loop_example_g00643_impl_errNoRoom), ("loop.example/g00643/impl.errNoneLeft", laid_loop_example_g00643_impl_errNoneLeft), ("unicode/utf8.first", laid_unicode_utf8_first)], narrowed := true }
def FnExactInitUptoSaid : Prop := fnExactInitUptoRow.holds Tryz.pinned (OpenSpec.upto fnExactInitSpec)

/-- 'laws.FnExactStable', WHERE WHAT IT READS IS OF BULK AT MOST 1048576: true; the input reads as it did. -/
def fnExactStableUptoRow : OpenClaim := { program := "ytdepaeajfldfbaagreatdoor", sum := "a5c81e497fc8e3175eb06819baefbdf19136ec42d2b01d29fe020e4e35e56dbf", func := "loop.example/g00643/laws.FnExactStable", spec := "fnExactStable", inPlace := ["sync/atomic.LoadUint32", "(*internal/sync.Mutex).Lock", "internal/race.Disable", "sync/atomic.CompareAndSwapInt32", "internal/race.Enable", "internal/race.Acquire", "(*internal/sync.Mutex).lockSlow", "internal/sync.runtime_canSpin", "internal/sync.runtime_doSpin", "internal/sync.throw", "internal/sync.runtime_nanotime", "internal/sync.runtime_SemacquireMutex", "sync/atomic.AddInt32", "(*internal/sync.Mutex).Unlock", "internal/race.ReleaseMerge", "(*internal/sync.Mutex).unlockSlow", "internal/sync.fatal", "internal/sync.runtime_Semrelease", "sync/atomic.StoreUint32"], unfollowed := true, recurses := true, named := ["loop.example/g00643/impl.errNoRing", "loop.example/g00643/impl.errNotRight", "unicode/utf8.first", "unicode/utf8.acceptRanges"], ifaces := true, apart := false, laid := [("unicode/utf8.acceptRanges", laid_unicode_utf8_acceptRanges), ("loop.example/g00643/impl.errNotRight", laid_loop_example_g00643_impl_errNotRight), ("loop.example/g00643/impl.errNoRing", laid_loop_example_g00643_impl_errNoRing), ("unicode/utf8.first", laid_unicode_utf8_first)], narrowed := true }
def FnExactStableUptoSaid : Prop := fnExactStableUptoRow.holds Tryz.pinned (OpenSpec.upto fnExactStableSpec)

/-- 'laws.FnExactCounts', WHERE WHAT IT READS IS OF BULK AT MOST 1048576: true; the input reads as it did. -/
def fnExactCountsUptoRow : OpenClaim := { program := "ytdepaeajfldfbaagreatdoor", sum := "a5c81e497fc8e3175eb06819baefbdf19136ec42d2b01d29fe020e4e35e56dbf", func := "loop.example/g00643/laws.FnExactCounts", spec := "fnExactCounts", inPlace := ["sync/atomic.LoadUint32", "(*internal/sync.Mutex).Lock", "internal/race.Disable", "sync/atomic.CompareAndSwapInt32", "internal/race.Enable", "internal/race.Acquire", "(*internal/sync.Mutex).lockSlow", "internal/sync.runtime_canSpin", "internal/sync.runtime_doSpin", "internal/sync.throw", "internal/sync.runtime_nanotime", "internal/sync.runtime_SemacquireMutex", "sync/atomic.AddInt32", "(*internal/sync.Mutex).Unlock", "internal/race.ReleaseMerge", "(*internal/sync.Mutex).unlockSlow", "internal/sync.fatal", "internal/sync.runtime_Semrelease", "sync/atomic.StoreUint32"], unfollowed := true, recurses := true, named := ["loop.example/g00643/impl.errNoRing", "loop.example/g00643/impl.errNotRight", "unicode/utf8.first", "unicode/utf8.acceptRanges"], ifaces := true, apart := false, laid := [("unicode/utf8.acceptRanges", laid_unicode_utf8_acceptRanges), ("loop.example/g00643/impl.errNotRight", laid_loop_example_g00643_impl_errNotRight), ("loop.example/g00643/impl.errNoRing", laid_loop_example_g00643_impl_errNoRing), ("unicode/utf8.first", laid_unicode_utf8_first)], narrowed := true }
def FnExactCountsUptoSaid : Prop := fnExactCountsUptoRow.holds Tryz.pinned (OpenSpec.upto fnExactCountsSpec)

end Rows
end Go.Proofs.YtdepaeajfldfbaaGreatDoor
