/-
  DERIVED. GIVEN WITH THE SEED: THE CARDS: each row of YtopbfjdjlgecpaaGreatDoorRows.lean that lists a variable, with what it lists TIED to the program's text (the seventh form; the later family's looks); each row that meets fmt, with fmt's text TOLD by the authors' own Lean function (tested against real Go, not proved from fmt's source: count such statements apart). THE CARD IS WHAT COUNTS. Prove the row's statement (the work); the ties are given (YtopbfjdjlgecpaaGreatDoorTie.lean); close each card by the builder's one call (the guide's Derived/Test/ToyasCard.lean, 'card_holds'). Laid BY PROGRAM, IN A SANDBOX (cutbox-door.mjs). By AI agents, Wed Nov 11 2026. No macro, syntax, notation, axiom, sorry.
-/
import Derived.Test.YtopbfjdjlgecpaaGreatDoorRows
import GoSem.ClaimSeven
namespace Go.Proofs.YtopbfjdjlgecpaaGreatDoor
namespace Rows

/-- THE TIED CARD OF 'laws.FnRing'. -/
def fnRingCard : Claim7 := { stood := { row := fnRingRow, standIns := [], harness := (true, "e3f40593b712a090ca5fdda055fa3fe63be63ee51d6bd2069289d0a9f3e0959e"), looks := false }, kinds := [], alts := [], laidByText := true, laidKinds := [.data, .pinned], laidTests := true, laidLooks := .later }
def FnRingCardSaid : Prop := Claim7.holds Tryz.pinned (.plain (OpenSpec.ofChange fnRingSpec)) fnRingCard

/-- THE TIED CARD OF 'laws.FnExactRingPut'. -/
def fnExactRingPutCard : Claim7 := { stood := { row := fnExactRingPutRow, standIns := [], harness := (true, "e3f40593b712a090ca5fdda055fa3fe63be63ee51d6bd2069289d0a9f3e0959e"), looks := false }, kinds := [], alts := [], laidByText := true, laidKinds := [.data, .pinned], laidTests := true, laidLooks := .later }
def FnExactRingPutCardSaid : Prop := Claim7.holds Tryz.pinned (.plain (OpenSpec.ofChange fnExactRingPutSpec)) fnExactRingPutCard

/-- THE TIED CARD OF 'laws.FnExactRingAt'. -/
def fnExactRingAtCard : Claim7 := { stood := { row := fnExactRingAtRow, standIns := [], harness := (true, "e3f40593b712a090ca5fdda055fa3fe63be63ee51d6bd2069289d0a9f3e0959e"), looks := false }, kinds := [], alts := [], laidByText := true, laidKinds := [.data, .pinned], laidTests := true, laidLooks := .later }
def FnExactRingAtCardSaid : Prop := Claim7.holds Tryz.pinned (.plain (OpenSpec.ofChange fnExactRingAtSpec)) fnExactRingAtCard

/-- THE SECOND FORM's CARD OF 'laws.FnRing'. -/
def fnRingUptoCard : Claim7 := { stood := { row := fnRingUptoRow, standIns := [], harness := (true, "e3f40593b712a090ca5fdda055fa3fe63be63ee51d6bd2069289d0a9f3e0959e"), looks := false }, kinds := [], alts := [], laidByText := true, laidKinds := [.data, .pinned], laidTests := true, laidLooks := .later }
def FnRingUptoCardSaid : Prop := Claim7.holds Tryz.pinned (.plain (OpenSpec.upto fnRingSpec)) fnRingUptoCard

/-- THE SECOND FORM's CARD OF 'laws.FnExactRingPut'. -/
def fnExactRingPutUptoCard : Claim7 := { stood := { row := fnExactRingPutUptoRow, standIns := [], harness := (true, "e3f40593b712a090ca5fdda055fa3fe63be63ee51d6bd2069289d0a9f3e0959e"), looks := false }, kinds := [], alts := [], laidByText := true, laidKinds := [.data, .pinned], laidTests := true, laidLooks := .later }
def FnExactRingPutUptoCardSaid : Prop := Claim7.holds Tryz.pinned (.plain (OpenSpec.upto fnExactRingPutSpec)) fnExactRingPutUptoCard

/-- THE SECOND FORM's CARD OF 'laws.FnExactRingAt'. -/
def fnExactRingAtUptoCard : Claim7 := { stood := { row := fnExactRingAtUptoRow, standIns := [], harness := (true, "e3f40593b712a090ca5fdda055fa3fe63be63ee51d6bd2069289d0a9f3e0959e"), looks := false }, kinds := [], alts := [], laidByText := true, laidKinds := [.data, .pinned], laidTests := true, laidLooks := .later }
def FnExactRingAtUptoCardSaid : Prop := Claim7.holds Tryz.pinned (.plain (OpenSpec.upto fnExactRingAtSpec)) fnExactRingAtUptoCard
end Rows
end Go.Proofs.YtopbfjdjlgecpaaGreatDoor
