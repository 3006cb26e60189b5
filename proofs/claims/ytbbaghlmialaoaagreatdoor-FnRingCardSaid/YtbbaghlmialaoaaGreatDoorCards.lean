/-
  DERIVED. GIVEN WITH THE SEED: THE CARDS: each row of YtbbaghlmialaoaaGreatDoorRows.lean that lists a variable, with what it lists TIED to the program's text (the seventh form; the later family's looks); each row that meets fmt, with fmt's text TOLD by the authors' own Lean function (tested against real Go, not proved from fmt's source: count such statements apart). THE CARD IS WHAT COUNTS. Prove the row's statement (the work); the ties are given (YtbbaghlmialaoaaGreatDoorTie.lean); close each card by the builder's one call (the guide's Derived/Test/ToyasCard.lean, 'card_holds'). Laid BY PROGRAM, IN A SANDBOX (cutbox-door.mjs). By AI agents, Wed Nov 11 2026. No macro, syntax, notation, axiom, sorry.
-/
import Derived.Test.YtbbaghlmialaoaaGreatDoorRows
import GoSem.ClaimSeven
namespace Go.Proofs.YtbbaghlmialaoaaGreatDoor
namespace Rows

/-- THE TIED CARD OF 'laws.FnRing'. -/
def fnRingCard : Claim7 := { stood := { row := fnRingRow, standIns := [], harness := (true, "0787ae652ec9cc01fc8a3b74b9b453dc5e7b788905e8e5e8d9e2e21dd10e1a25"), looks := false }, kinds := [], alts := [], laidByText := true, laidKinds := [.data, .pinned], laidTests := true, laidLooks := .later }
def FnRingCardSaid : Prop := Claim7.holds Tryz.pinned (.plain (OpenSpec.ofChange fnRingSpec)) fnRingCard

/-- THE TIED CARD OF 'laws.FnExactFabricRight'. -/
def fnExactFabricRightCard : Claim7 := { stood := { row := fnExactFabricRightRow, standIns := [], harness := (true, "0787ae652ec9cc01fc8a3b74b9b453dc5e7b788905e8e5e8d9e2e21dd10e1a25"), looks := false }, kinds := [], alts := [], laidByText := true, laidKinds := [.data, .sentinel, .pinned], laidTests := true, laidLooks := .later }
def FnExactFabricRightCardSaid : Prop := Claim7.holds Tryz.pinned (.plain (OpenSpec.ofChange fnExactFabricRightSpec)) fnExactFabricRightCard

/-- THE TIED CARD OF 'laws.FnExactOpenOf'. -/
def fnExactOpenOfCard : Claim7 := { stood := { row := fnExactOpenOfRow, standIns := [], harness := (true, "0787ae652ec9cc01fc8a3b74b9b453dc5e7b788905e8e5e8d9e2e21dd10e1a25"), looks := false }, kinds := [], alts := [], laidByText := true, laidKinds := [.data, .sentinel, .sentinel, .pinned], laidTests := true, laidLooks := .later }
def FnExactOpenOfCardSaid : Prop := Claim7.holds Tryz.pinned (.plain (OpenSpec.ofChange fnExactOpenOfSpec)) fnExactOpenOfCard

/-- THE TIED CARD OF 'laws.FnExactOwed'. -/
def fnExactOwedCard : Claim7 := { stood := { row := fnExactOwedRow, standIns := [], harness := (true, "0787ae652ec9cc01fc8a3b74b9b453dc5e7b788905e8e5e8d9e2e21dd10e1a25"), looks := false }, kinds := [], alts := [], laidByText := true, laidKinds := [.data, .sentinel, .pinned], laidTests := true, laidLooks := .later }
def FnExactOwedCardSaid : Prop := Claim7.holds Tryz.pinned (.plain (OpenSpec.ofChange fnExactOwedSpec)) fnExactOwedCard

/-- THE SECOND FORM's CARD OF 'laws.FnRing'. -/
def fnRingUptoCard : Claim7 := { stood := { row := fnRingUptoRow, standIns := [], harness := (true, "0787ae652ec9cc01fc8a3b74b9b453dc5e7b788905e8e5e8d9e2e21dd10e1a25"), looks := false }, kinds := [], alts := [], laidByText := true, laidKinds := [.data, .pinned], laidTests := true, laidLooks := .later }
def FnRingUptoCardSaid : Prop := Claim7.holds Tryz.pinned (.plain (OpenSpec.upto fnRingSpec)) fnRingUptoCard

/-- THE SECOND FORM's CARD OF 'laws.FnExactFabricRight'. -/
def fnExactFabricRightUptoCard : Claim7 := { stood := { row := fnExactFabricRightUptoRow, standIns := [], harness := (true, "0787ae652ec9cc01fc8a3b74b9b453dc5e7b788905e8e5e8d9e2e21dd10e1a25"), looks := false }, kinds := [], alts := [], laidByText := true, laidKinds := [.data, .sentinel, .pinned], laidTests := true, laidLooks := .later }
def FnExactFabricRightUptoCardSaid : Prop := Claim7.holds Tryz.pinned (.plain (OpenSpec.upto fnExactFabricRightSpec)) fnExactFabricRightUptoCard

/-- THE SECOND FORM's CARD OF 'laws.FnExactOpenOf'. -/
def fnExactOpenOfUptoCard : Claim7 := { stood := { row := fnExactOpenOfUptoRow, standIns := [], harness := (true, "0787ae652ec9cc01fc8a3b74b9b453dc5e7b788905e8e5e8d9e2e21dd10e1a25"), looks := false }, kinds := [], alts := [], laidByText := true, laidKinds := [.data, .sentinel, .sentinel, .pinned], laidTests := true, laidLooks := .later }
def FnExactOpenOfUptoCardSaid : Prop := Claim7.holds Tryz.pinned (.plain (OpenSpec.upto fnExactOpenOfSpec)) fnExactOpenOfUptoCard

/-- THE SECOND FORM's CARD OF 'laws.FnExactOwed'. -/
def fnExactOwedUptoCard : Claim7 := { stood := { row := fnExactOwedUptoRow, standIns := [], harness := (true, "0787ae652ec9cc01fc8a3b74b9b453dc5e7b788905e8e5e8d9e2e21dd10e1a25"), looks := false }, kinds := [], alts := [], laidByText := true, laidKinds := [.data, .sentinel, .pinned], laidTests := true, laidLooks := .later }
def FnExactOwedUptoCardSaid : Prop := Claim7.holds Tryz.pinned (.plain (OpenSpec.upto fnExactOwedSpec)) fnExactOwedUptoCard
end Rows
end Go.Proofs.YtbbaghlmialaoaaGreatDoor
