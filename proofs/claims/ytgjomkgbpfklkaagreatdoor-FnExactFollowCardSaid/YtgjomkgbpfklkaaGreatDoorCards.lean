/-
  DERIVED. GIVEN WITH THE SEED: THE CARDS: each row of YtgjomkgbpfklkaaGreatDoorRows.lean that lists a variable, with what it lists TIED to the program's text (the seventh form; the later family's looks); each row that meets fmt, with fmt's text TOLD by the authors' own Lean function (tested against real Go, not proved from fmt's source: count such statements apart). THE CARD IS WHAT COUNTS. Prove the row's statement (the work); the ties are given (YtgjomkgbpfklkaaGreatDoorTie.lean); close each card by the builder's one call (the guide's Derived/Test/ToyasCard.lean, 'card_holds'). Laid BY PROGRAM, IN A SANDBOX (cutbox-door.mjs). By AI agents, Wed Nov 11 2026. No macro, syntax, notation, axiom, sorry.
-/
import Derived.Test.YtgjomkgbpfklkaaGreatDoorRows
import GoSem.ClaimSeven
namespace Go.Proofs.YtgjomkgbpfklkaaGreatDoor
namespace Rows

/-- THE TIED CARD OF 'laws.FnRing'. -/
def fnRingCard : Claim7 := { stood := { row := fnRingRow, standIns := [], harness := (true, "b94819229f7892cabab04d7b954e3379755cf398ca9b9884645c5e9afce6f898"), looks := false }, kinds := [], alts := [], laidByText := true, laidKinds := [.data, .pinned], laidTests := true, laidLooks := .later }
def FnRingCardSaid : Prop := Claim7.holds Tryz.pinned (.plain (OpenSpec.ofChange fnRingSpec)) fnRingCard

/-- THE TIED CARD OF 'laws.FnExactRingPut'. -/
def fnExactRingPutCard : Claim7 := { stood := { row := fnExactRingPutRow, standIns := [], harness := (true, "b94819229f7892cabab04d7b954e3379755cf398ca9b9884645c5e9afce6f898"), looks := false }, kinds := [], alts := [], laidByText := true, laidKinds := [.data, .pinned], laidTests := true, laidLooks := .later }
def FnExactRingPutCardSaid : Prop := Claim7.holds Tryz.pinned (.plain (OpenSpec.ofChange fnExactRingPutSpec)) fnExactRingPutCard

/-- THE TIED CARD OF 'laws.FnExactRingAt'. -/
def fnExactRingAtCard : Claim7 := { stood := { row := fnExactRingAtRow, standIns := [], harness := (true, "b94819229f7892cabab04d7b954e3379755cf398ca9b9884645c5e9afce6f898"), looks := false }, kinds := [], alts := [], laidByText := true, laidKinds := [.data, .pinned], laidTests := true, laidLooks := .later }
def FnExactRingAtCardSaid : Prop := Claim7.holds Tryz.pinned (.plain (OpenSpec.ofChange fnExactRingAtSpec)) fnExactRingAtCard

/-- THE TIED CARD OF 'laws.FnExactFollow'. -/
def fnExactFollowCard : Claim7 := { stood := { row := fnExactFollowRow, standIns := [], harness := (true, "b94819229f7892cabab04d7b954e3379755cf398ca9b9884645c5e9afce6f898"), looks := false }, kinds := [], alts := [], laidByText := true, laidKinds := [.data, .pinned], laidTests := true, laidLooks := .later }
def FnExactFollowCardSaid : Prop := Claim7.holds Tryz.pinned (.plain (OpenSpec.ofChange fnExactFollowSpec)) fnExactFollowCard

/-- THE TIED CARD OF 'laws.FnExactMove'. -/
def fnExactMoveCard : Claim7 := { stood := { row := fnExactMoveRow, standIns := [], harness := (true, "b94819229f7892cabab04d7b954e3379755cf398ca9b9884645c5e9afce6f898"), looks := false }, kinds := [], alts := [], laidByText := true, laidKinds := [.data, .pinned], laidTests := true, laidLooks := .later }
def FnExactMoveCardSaid : Prop := Claim7.holds Tryz.pinned (.plain (OpenSpec.ofChange fnExactMoveSpec)) fnExactMoveCard

/-- THE SECOND FORM's CARD OF 'laws.FnRing'. -/
def fnRingUptoCard : Claim7 := { stood := { row := fnRingUptoRow, standIns := [], harness := (true, "b94819229f7892cabab04d7b954e3379755cf398ca9b9884645c5e9afce6f898"), looks := false }, kinds := [], alts := [], laidByText := true, laidKinds := [.data, .pinned], laidTests := true, laidLooks := .later }
def FnRingUptoCardSaid : Prop := Claim7.holds Tryz.pinned (.plain (OpenSpec.upto fnRingSpec)) fnRingUptoCard

/-- THE SECOND FORM's CARD OF 'laws.FnExactRingPut'. -/
def fnExactRingPutUptoCard : Claim7 := { stood := { row := fnExactRingPutUptoRow, standIns := [], harness := (true, "b94819229f7892cabab04d7b954e3379755cf398ca9b9884645c5e9afce6f898"), looks := false }, kinds := [], alts := [], laidByText := true, laidKinds := [.data, .pinned], laidTests := true, laidLooks := .later }
def FnExactRingPutUptoCardSaid : Prop := Claim7.holds Tryz.pinned (.plain (OpenSpec.upto fnExactRingPutSpec)) fnExactRingPutUptoCard

/-- THE SECOND FORM's CARD OF 'laws.FnExactRingAt'. -/
def fnExactRingAtUptoCard : Claim7 := { stood := { row := fnExactRingAtUptoRow, standIns := [], harness := (true, "b94819229f7892cabab04d7b954e3379755cf398ca9b9884645c5e9afce6f898"), looks := false }, kinds := [], alts := [], laidByText := true, laidKinds := [.data, .pinned], laidTests := true, laidLooks := .later }
def FnExactRingAtUptoCardSaid : Prop := Claim7.holds Tryz.pinned (.plain (OpenSpec.upto fnExactRingAtSpec)) fnExactRingAtUptoCard

/-- THE SECOND FORM's CARD OF 'laws.FnExactFollow'. -/
def fnExactFollowUptoCard : Claim7 := { stood := { row := fnExactFollowUptoRow, standIns := [], harness := (true, "b94819229f7892cabab04d7b954e3379755cf398ca9b9884645c5e9afce6f898"), looks := false }, kinds := [], alts := [], laidByText := true, laidKinds := [.data, .pinned], laidTests := true, laidLooks := .later }
def FnExactFollowUptoCardSaid : Prop := Claim7.holds Tryz.pinned (.plain (OpenSpec.upto fnExactFollowSpec)) fnExactFollowUptoCard

/-- THE SECOND FORM's CARD OF 'laws.FnExactMove'. -/
def fnExactMoveUptoCard : Claim7 := { stood := { row := fnExactMoveUptoRow, standIns := [], harness := (true, "b94819229f7892cabab04d7b954e3379755cf398ca9b9884645c5e9afce6f898"), looks := false }, kinds := [], alts := [], laidByText := true, laidKinds := [.data, .pinned], laidTests := true, laidLooks := .later }
def FnExactMoveUptoCardSaid : Prop := Claim7.holds Tryz.pinned (.plain (OpenSpec.upto fnExactMoveSpec)) fnExactMoveUptoCard
end Rows
end Go.Proofs.YtgjomkgbpfklkaaGreatDoor
