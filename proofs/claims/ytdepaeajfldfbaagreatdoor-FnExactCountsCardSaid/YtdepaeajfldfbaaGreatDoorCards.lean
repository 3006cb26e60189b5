/-
  DERIVED. GIVEN WITH THE SEED: THE CARDS: each row of YtdepaeajfldfbaaGreatDoorRows.lean that lists a variable, with what it lists TIED to the program's text (the seventh form; the later family's looks); each row that meets fmt, with fmt's text TOLD by the authors' own Lean function (tested against real Go, not proved from fmt's source: count such statements apart). THE CARD IS WHAT COUNTS. Prove the row's statement (the work); the ties are given (YtdepaeajfldfbaaGreatDoorTie.lean); close each card by the builder's one call (the guide's Derived/Test/ToyasCard.lean, 'card_holds'). Laid BY PROGRAM, IN A SANDBOX (cutbox-door.mjs). By AI agents, Wed Nov 11 2026. No macro, syntax, notation, axiom, sorry.
-/
import Derived.Test.YtdepaeajfldfbaaGreatDoorRows
import GoSem.ClaimSeven
namespace Go.Proofs.YtdepaeajfldfbaaGreatDoor
namespace Rows

/-- THE TIED CARD OF 'laws.FnExactFabricRight'. -/
def fnExactFabricRightCard : Claim7 := { stood := { row := fnExactFabricRightRow, standIns := [], harness := (true, "589be33b96cba6315dceb365feec28e591569d225deaae677bb0788bc34c14e9"), looks := true }, kinds := [], alts := [], laidByText := true, laidKinds := [.data, .sentinel, .pinned], laidTests := true, laidLooks := .later }
def FnExactFabricRightCardSaid : Prop := Claim7.holds Tryz.pinned (.plain (OpenSpec.ofChange fnExactFabricRightSpec)) fnExactFabricRightCard

/-- THE TIED CARD OF 'laws.FnExactOpenOf'. -/
def fnExactOpenOfCard : Claim7 := { stood := { row := fnExactOpenOfRow, standIns := [], harness := (true, "589be33b96cba6315dceb365feec28e591569d225deaae677bb0788bc34c14e9"), looks := true }, kinds := [], alts := [], laidByText := true, laidKinds := [.data, .sentinel, .sentinel, .pinned], laidTests := true, laidLooks := .later }
def FnExactOpenOfCardSaid : Prop := Claim7.holds Tryz.pinned (.plain (OpenSpec.ofChange fnExactOpenOfSpec)) fnExactOpenOfCard

/-- THE TIED CARD OF 'laws.FnExactOwed'. -/
def fnExactOwedCard : Claim7 := { stood := { row := fnExactOwedRow, standIns := [], harness := (true, "589be33b96cba6315dceb365feec28e591569d225deaae677bb0788bc34c14e9"), looks := true }, kinds := [], alts := [], laidByText := true, laidKinds := [.data, .sentinel, .pinned], laidTests := true, laidLooks := .later }
def FnExactOwedCardSaid : Prop := Claim7.holds Tryz.pinned (.plain (OpenSpec.ofChange fnExactOwedSpec)) fnExactOwedCard

/-- THE TIED CARD OF 'laws.FnExactInit'. -/
def fnExactInitCard : Claim7 := { stood := { row := fnExactInitRow, standIns := [], harness := (true, "589be33b96cba6315dceb365feec28e591569d225deaae677bb0788bc34c14e9"), looks := true }, kinds := [], alts := [], laidByText := true, laidKinds := [.data, .handle, .sentinel, .sentinel, .sentinel, .sentinel, .sentinel, .sentinel, .pinned], laidTests := true, laidLooks := .later }
def FnExactInitCardSaid : Prop := Claim7.holds Tryz.pinned (.plain (OpenSpec.ofChange fnExactInitSpec)) fnExactInitCard

/-- THE TIED CARD OF 'laws.FnExactStable'. -/
def fnExactStableCard : Claim7 := { stood := { row := fnExactStableRow, standIns := [], harness := (true, "589be33b96cba6315dceb365feec28e591569d225deaae677bb0788bc34c14e9"), looks := true }, kinds := [], alts := [], laidByText := true, laidKinds := [.data, .sentinel, .sentinel, .pinned], laidTests := true, laidLooks := .later }
def FnExactStableCardSaid : Prop := Claim7.holds Tryz.pinned (.plain (OpenSpec.ofChange fnExactStableSpec)) fnExactStableCard

/-- THE TIED CARD OF 'laws.FnExactCounts'. -/
def fnExactCountsCard : Claim7 := { stood := { row := fnExactCountsRow, standIns := [], harness := (true, "589be33b96cba6315dceb365feec28e591569d225deaae677bb0788bc34c14e9"), looks := true }, kinds := [], alts := [], laidByText := true, laidKinds := [.data, .sentinel, .sentinel, .pinned], laidTests := true, laidLooks := .later }
def FnExactCountsCardSaid : Prop := Claim7.holds Tryz.pinned (.plain (OpenSpec.ofChange fnExactCountsSpec)) fnExactCountsCard

/-- THE SECOND FORM's CARD OF 'laws.FnExactFabricRight'. -/
def fnExactFabricRightUptoCard : Claim7 := { stood := { row := fnExactFabricRightUptoRow, standIns := [], harness := (true, "589be33b96cba6315dceb365feec28e591569d225deaae677bb0788bc34c14e9"), looks := true }, kinds := [], alts := [], laidByText := true, laidKinds := [.data, .sentinel, .pinned], laidTests := true, laidLooks := .later }
def FnExactFabricRightUptoCardSaid : Prop := Claim7.holds Tryz.pinned (.plain (OpenSpec.upto fnExactFabricRightSpec)) fnExactFabricRightUptoCard

/-- THE SECOND FORM's CARD OF 'laws.FnExactOpenOf'. -/
def fnExactOpenOfUptoCard : Claim7 := { stood := { row := fnExactOpenOfUptoRow, standIns := [], harness := (true, "589be33b96cba6315dceb365feec28e591569d225deaae677bb0788bc34c14e9"), looks := true }, kinds := [], alts := [], laidByText := true, laidKinds := [.data, .sentinel, .sentinel, .pinned], laidTests := true, laidLooks := .later }
def FnExactOpenOfUptoCardSaid : Prop := Claim7.holds Tryz.pinned (.plain (OpenSpec.upto fnExactOpenOfSpec)) fnExactOpenOfUptoCard

/-- THE SECOND FORM's CARD OF 'laws.FnExactOwed'. -/
def fnExactOwedUptoCard : Claim7 := { stood := { row := fnExactOwedUptoRow, standIns := [], harness := (true, "589be33b96cba6315dceb365feec28e591569d225deaae677bb0788bc34c14e9"), looks := true }, kinds := [], alts := [], laidByText := true, laidKinds := [.data, .sentinel, .pinned], laidTests := true, laidLooks := .later }
def FnExactOwedUptoCardSaid : Prop := Claim7.holds Tryz.pinned (.plain (OpenSpec.upto fnExactOwedSpec)) fnExactOwedUptoCard

/-- THE SECOND FORM's CARD OF 'laws.FnExactInit'. -/
def fnExactInitUptoCard : Claim7 := { stood := { row := fnExactInitUptoRow, standIns := [], harness := (true, "589be33b96cba6315dceb365feec28e591569d225deaae677bb0788bc34c14e9"), looks := true }, kinds := [], alts := [], laidByText := true, laidKinds := [.data, .handle, .sentinel, .sentinel, .sentinel, .sentinel, .sentinel, .sentinel, .pinned], laidTests := true, laidLooks := .later }
def FnExactInitUptoCardSaid : Prop := Claim7.holds Tryz.pinned (.plain (OpenSpec.upto fnExactInitSpec)) fnExactInitUptoCard

/-- THE SECOND FORM's CARD OF 'laws.FnExactStable'. -/
def fnExactStableUptoCard : Claim7 := { stood := { row := fnExactStableUptoRow, standIns := [], harness := (true, "589be33b96cba6315dceb365feec28e591569d225deaae677bb0788bc34c14e9"), looks := true }, kinds := [], alts := [], laidByText := true, laidKinds := [.data, .sentinel, .sentinel, .pinned], laidTests := true, laidLooks := .later }
def FnExactStableUptoCardSaid : Prop := Claim7.holds Tryz.pinned (.plain (OpenSpec.upto fnExactStableSpec)) fnExactStableUptoCard

/-- THE SECOND FORM's CARD OF 'laws.FnExactCounts'. -/
def fnExactCountsUptoCard : Claim7 := { stood := { row := fnExactCountsUptoRow, standIns := [], harness := (true, "589be33b96cba6315dceb365feec28e591569d225deaae677bb0788bc34c14e9"), looks := true }, kinds := [], alts := [], laidByText := true, laidKinds := [.data, .sentinel, .sentinel, .pinned], laidTests := true, laidLooks := .later }
def FnExactCountsUptoCardSaid : Prop := Claim7.holds Tryz.pinned (.plain (OpenSpec.upto fnExactCountsSpec)) fnExactCountsUptoCard
end Rows
end Go.Proofs.YtdepaeajfldfbaaGreatDoor
