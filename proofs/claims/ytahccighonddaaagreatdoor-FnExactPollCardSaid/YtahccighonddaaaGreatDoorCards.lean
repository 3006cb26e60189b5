/-
  DERIVED. GIVEN WITH THE SEED: THE CARDS: each row of YtahccighonddaaaGreatDoorRows.lean that lists a variable, with what it lists TIED to the program's text (the seventh form; the later family's looks); each row that meets fmt, with fmt's text TOLD by the authors' own Lean function (tested against real Go, not proved from fmt's source: count such statements apart). THE CARD IS WHAT COUNTS. Prove the row's statement (the work); the ties are given (YtahccighonddaaaGreatDoorTie.lean); close each card by the builder's one call (the guide's Derived/Test/ToyasCard.lean, 'card_holds'). Laid BY PROGRAM, IN A SANDBOX (cutbox-door.mjs). By AI agents, Wed Nov 11 2026. No macro, syntax, notation, axiom, sorry.
-/
import Derived.Test.YtahccighonddaaaGreatDoorRows
import GoSem.ClaimSeven
namespace Go.Proofs.YtahccighonddaaaGreatDoor
namespace Rows

/-- THE TIED CARD OF 'laws.FnExactSend'. -/
def fnExactSendCard : Claim7 := { stood := { row := fnExactSendRow, standIns := [], harness := (true, "22c33876ccbee132c6f99816a0387169ce2f7df30252b7a2181b5b9274d6e587"), looks := true }, kinds := [], alts := [], laidByText := true, laidKinds := [.data, .handle, .sentinel, .sentinel, .sentinel, .sentinel, .sentinel, .sentinel, .pinned], laidTests := true, laidLooks := .later }
def FnExactSendCardSaid : Prop := Claim7.holds Tryz.pinned (.plain (OpenSpec.ofChange fnExactSendSpec)) fnExactSendCard

/-- THE TIED CARD OF 'laws.FnExactSubscribe'. -/
def fnExactSubscribeCard : Claim7 := { stood := { row := fnExactSubscribeRow, standIns := [], harness := (true, "22c33876ccbee132c6f99816a0387169ce2f7df30252b7a2181b5b9274d6e587"), looks := true }, kinds := [], alts := [], laidByText := true, laidKinds := [.data, .handle, .sentinel, .sentinel, .sentinel, .sentinel, .sentinel, .sentinel, .pinned], laidTests := true, laidLooks := .later }
def FnExactSubscribeCardSaid : Prop := Claim7.holds Tryz.pinned (.plain (OpenSpec.ofChange fnExactSubscribeSpec)) fnExactSubscribeCard

/-- THE TIED CARD OF 'laws.FnExactPoll'. -/
def fnExactPollCard : Claim7 := { stood := { row := fnExactPollRow, standIns := [], harness := (true, "22c33876ccbee132c6f99816a0387169ce2f7df30252b7a2181b5b9274d6e587"), looks := true }, kinds := [], alts := [], laidByText := true, laidKinds := [.data, .handle, .sentinel, .sentinel, .sentinel, .sentinel, .sentinel, .sentinel, .pinned], laidTests := true, laidLooks := .later }
def FnExactPollCardSaid : Prop := Claim7.holds Tryz.pinned (.plain (OpenSpec.ofChange fnExactPollSpec)) fnExactPollCard

/-- THE TIED CARD OF 'laws.FnExactForget'. -/
def fnExactForgetCard : Claim7 := { stood := { row := fnExactForgetRow, standIns := [], harness := (true, "22c33876ccbee132c6f99816a0387169ce2f7df30252b7a2181b5b9274d6e587"), looks := true }, kinds := [], alts := [], laidByText := true, laidKinds := [.data, .handle, .sentinel, .sentinel, .sentinel, .sentinel, .sentinel, .sentinel, .pinned], laidTests := true, laidLooks := .later }
def FnExactForgetCardSaid : Prop := Claim7.holds Tryz.pinned (.plain (OpenSpec.ofChange fnExactForgetSpec)) fnExactForgetCard

/-- THE SECOND FORM's CARD OF 'laws.FnExactSend'. -/
def fnExactSendUptoCard : Claim7 := { stood := { row := fnExactSendUptoRow, standIns := [], harness := (true, "22c33876ccbee132c6f99816a0387169ce2f7df30252b7a2181b5b9274d6e587"), looks := true }, kinds := [], alts := [], laidByText := true, laidKinds := [.data, .handle, .sentinel, .sentinel, .sentinel, .sentinel, .sentinel, .sentinel, .pinned], laidTests := true, laidLooks := .later }
def FnExactSendUptoCardSaid : Prop := Claim7.holds Tryz.pinned (.plain (OpenSpec.upto fnExactSendSpec)) fnExactSendUptoCard

/-- THE SECOND FORM's CARD OF 'laws.FnExactSubscribe'. -/
def fnExactSubscribeUptoCard : Claim7 := { stood := { row := fnExactSubscribeUptoRow, standIns := [], harness := (true, "22c33876ccbee132c6f99816a0387169ce2f7df30252b7a2181b5b9274d6e587"), looks := true }, kinds := [], alts := [], laidByText := true, laidKinds := [.data, .handle, .sentinel, .sentinel, .sentinel, .sentinel, .sentinel, .sentinel, .pinned], laidTests := true, laidLooks := .later }
def FnExactSubscribeUptoCardSaid : Prop := Claim7.holds Tryz.pinned (.plain (OpenSpec.upto fnExactSubscribeSpec)) fnExactSubscribeUptoCard

/-- THE SECOND FORM's CARD OF 'laws.FnExactPoll'. -/
def fnExactPollUptoCard : Claim7 := { stood := { row := fnExactPollUptoRow, standIns := [], harness := (true, "22c33876ccbee132c6f99816a0387169ce2f7df30252b7a2181b5b9274d6e587"), looks := true }, kinds := [], alts := [], laidByText := true, laidKinds := [.data, .handle, .sentinel, .sentinel, .sentinel, .sentinel, .sentinel, .sentinel, .pinned], laidTests := true, laidLooks := .later }
def FnExactPollUptoCardSaid : Prop := Claim7.holds Tryz.pinned (.plain (OpenSpec.upto fnExactPollSpec)) fnExactPollUptoCard

/-- THE SECOND FORM's CARD OF 'laws.FnExactForget'. -/
def fnExactForgetUptoCard : Claim7 := { stood := { row := fnExactForgetUptoRow, standIns := [], harness := (true, "22c33876ccbee132c6f99816a0387169ce2f7df30252b7a2181b5b9274d6e587"), looks := true }, kinds := [], alts := [], laidByText := true, laidKinds := [.data, .handle, .sentinel, .sentinel, .sentinel, .sentinel, .sentinel, .sentinel, .pinned], laidTests := true, laidLooks := .later }
def FnExactForgetUptoCardSaid : Prop := Claim7.holds Tryz.pinned (.plain (OpenSpec.upto fnExactForgetSpec)) fnExactForgetUptoCard
end Rows
end Go.Proofs.YtahccighonddaaaGreatDoor
