/-
  DERIVED. GIVEN WITH THE SEED: THE CARDS: each row of YtblkbpgnhkjaaaaDoorRows.lean that lists a variable, with what it lists TIED to the program's text (the seventh form; the later family's looks); each row that meets fmt, with fmt's text TOLD by the authors' own Lean function (tested against real Go, not proved from fmt's source: count such statements apart). THE CARD IS WHAT COUNTS. Prove the row's statement (the work); the ties are given (YtblkbpgnhkjaaaaDoorTie.lean); close each card by the builder's one call (the guide's Derived/Test/ToyasCard.lean, 'card_holds'). Laid BY PROGRAM, IN A SANDBOX (cutbox-door.mjs). By AI agents, Wed Nov 11 2026. No macro, syntax, notation, axiom, sorry.
-/
import Derived.Test.YtblkbpgnhkjaaaaDoorRows
import GoSem.ClaimSeven
namespace Go.Proofs.YtblkbpgnhkjaaaaDoor
namespace Rows

/-- THE TIED CARD OF 'laws.FnExactRingRight'. -/
def fnExactRingRightCard : Claim7 := { stood := { row := fnExactRingRightRow, standIns := [], harness := (true, "34728761f9cb9425640a0a9ed9b6c65c38144931e302458f87837e78dfcf3c29"), looks := false }, kinds := [], alts := [], laidByText := true, laidKinds := [.data, .pinned], laidTests := true, laidLooks := .later }
def FnExactRingRightCardSaid : Prop := Claim7.holds Tryd.pinned (.plain (OpenSpec.ofChange fnExactRingRightSpec)) fnExactRingRightCard

/-- THE TIED CARD OF 'laws.FnExactRingEnd'. -/
def fnExactRingEndCard : Claim7 := { stood := { row := fnExactRingEndRow, standIns := [], harness := (true, "34728761f9cb9425640a0a9ed9b6c65c38144931e302458f87837e78dfcf3c29"), looks := false }, kinds := [], alts := [], laidByText := true, laidKinds := [.data, .pinned], laidTests := true, laidLooks := .later }
def FnExactRingEndCardSaid : Prop := Claim7.holds Tryd.pinned (.plain (OpenSpec.ofChange fnExactRingEndSpec)) fnExactRingEndCard

/-- THE TIED CARD OF 'laws.FnExactRingRoom'. -/
def fnExactRingRoomCard : Claim7 := { stood := { row := fnExactRingRoomRow, standIns := [], harness := (true, "34728761f9cb9425640a0a9ed9b6c65c38144931e302458f87837e78dfcf3c29"), looks := false }, kinds := [], alts := [], laidByText := true, laidKinds := [.data, .pinned], laidTests := true, laidLooks := .later }
def FnExactRingRoomCardSaid : Prop := Claim7.holds Tryd.pinned (.plain (OpenSpec.ofChange fnExactRingRoomSpec)) fnExactRingRoomCard

/-- THE SECOND FORM's CARD OF 'laws.FnExactRingRight'. -/
def fnExactRingRightUptoCard : Claim7 := { stood := { row := fnExactRingRightUptoRow, standIns := [], harness := (true, "34728761f9cb9425640a0a9ed9b6c65c38144931e302458f87837e78dfcf3c29"), looks := false }, kinds := [], alts := [], laidByText := true, laidKinds := [.data, .pinned], laidTests := true, laidLooks := .later }
def FnExactRingRightUptoCardSaid : Prop := Claim7.holds Tryd.pinned (.plain (OpenSpec.upto fnExactRingRightSpec)) fnExactRingRightUptoCard

/-- THE SECOND FORM's CARD OF 'laws.FnExactRingEnd'. -/
def fnExactRingEndUptoCard : Claim7 := { stood := { row := fnExactRingEndUptoRow, standIns := [], harness := (true, "34728761f9cb9425640a0a9ed9b6c65c38144931e302458f87837e78dfcf3c29"), looks := false }, kinds := [], alts := [], laidByText := true, laidKinds := [.data, .pinned], laidTests := true, laidLooks := .later }
def FnExactRingEndUptoCardSaid : Prop := Claim7.holds Tryd.pinned (.plain (OpenSpec.upto fnExactRingEndSpec)) fnExactRingEndUptoCard

/-- THE SECOND FORM's CARD OF 'laws.FnExactRingRoom'. -/
def fnExactRingRoomUptoCard : Claim7 := { stood := { row := fnExactRingRoomUptoRow, standIns := [], harness := (true, "34728761f9cb9425640a0a9ed9b6c65c38144931e302458f87837e78dfcf3c29"), looks := false }, kinds := [], alts := [], laidByText := true, laidKinds := [.data, .pinned], laidTests := true, laidLooks := .later }
def FnExactRingRoomUptoCardSaid : Prop := Claim7.holds Tryd.pinned (.plain (OpenSpec.upto fnExactRingRoomSpec)) fnExactRingRoomUptoCard
end Rows
end Go.Proofs.YtblkbpgnhkjaaaaDoor
