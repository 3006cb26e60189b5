/-
  DERIVED. GIVEN WITH THE SEED: THE CARDS: each row of YtneiihikcnjglaaGreatDoorRows.lean that lists a variable, with what it lists TIED to the program's text (the seventh form; the later family's looks); each row that meets fmt, with fmt's text TOLD by the authors' own Lean function (tested against real Go, not proved from fmt's source: count such statements apart). THE CARD IS WHAT COUNTS. Prove the row's statement (the work); the ties are given (YtneiihikcnjglaaGreatDoorTie.lean); close each card by the builder's one call (the guide's Derived/Test/ToyasCard.lean, 'card_holds'). Laid BY PROGRAM, IN A SANDBOX (cutbox-door.mjs). By AI agents, Wed Nov 11 2026. No macro, syntax, notation, axiom, sorry.
-/
import Derived.Test.YtneiihikcnjglaaGreatDoorRows
import GoSem.ClaimSeven
namespace Go.Proofs.YtneiihikcnjglaaGreatDoor
namespace Rows

/-- THE TIED CARD OF 'laws.FnExactInit'. -/
def fnExactInitCard : Claim7 := { stood := { row := fnExactInitRow, standIns := [], harness := (true, "33595f2f126cac3748f71d7df98ac8756a133825e918a75ede2813ec5605c1bc"), looks := true }, kinds := [], alts := [], laidByText := true, laidKinds := [.data, .handle, .sentinel, .sentinel, .sentinel, .sentinel, .sentinel, .sentinel, .pinned], laidTests := true, laidLooks := .later }
def FnExactInitCardSaid : Prop := Claim7.holds Tryz.pinned (.plain (OpenSpec.ofChange fnExactInitSpec)) fnExactInitCard

/-- THE TIED CARD OF 'laws.FnExactBegin'. -/
def fnExactBeginCard : Claim7 := { stood := { row := fnExactBeginRow, standIns := [], harness := (true, "33595f2f126cac3748f71d7df98ac8756a133825e918a75ede2813ec5605c1bc"), looks := true }, kinds := [], alts := [], laidByText := true, laidKinds := [.data, .handle, .sentinel, .sentinel, .sentinel, .sentinel, .sentinel, .sentinel, .pinned], laidTests := true, laidLooks := .later }
def FnExactBeginCardSaid : Prop := Claim7.holds Tryz.pinned (.plain (OpenSpec.ofChange fnExactBeginSpec)) fnExactBeginCard

/-- THE TIED CARD OF 'laws.FnExactSend'. -/
def fnExactSendCard : Claim7 := { stood := { row := fnExactSendRow, standIns := [], harness := (true, "33595f2f126cac3748f71d7df98ac8756a133825e918a75ede2813ec5605c1bc"), looks := true }, kinds := [], alts := [], laidByText := true, laidKinds := [.data, .handle, .sentinel, .sentinel, .sentinel, .sentinel, .sentinel, .sentinel, .pinned], laidTests := true, laidLooks := .later }
def FnExactSendCardSaid : Prop := Claim7.holds Tryz.pinned (.plain (OpenSpec.ofChange fnExactSendSpec)) fnExactSendCard

/-- THE TIED CARD OF 'laws.FnExactEnd'. -/
def fnExactEndCard : Claim7 := { stood := { row := fnExactEndRow, standIns := [], harness := (true, "33595f2f126cac3748f71d7df98ac8756a133825e918a75ede2813ec5605c1bc"), looks := true }, kinds := [], alts := [], laidByText := true, laidKinds := [.data, .handle, .sentinel, .sentinel, .sentinel, .sentinel, .sentinel, .sentinel, .pinned], laidTests := true, laidLooks := .later }
def FnExactEndCardSaid : Prop := Claim7.holds Tryz.pinned (.plain (OpenSpec.ofChange fnExactEndSpec)) fnExactEndCard

/-- THE TIED CARD OF 'laws.FnExactHelp'. -/
def fnExactHelpCard : Claim7 := { stood := { row := fnExactHelpRow, standIns := [], harness := (true, "33595f2f126cac3748f71d7df98ac8756a133825e918a75ede2813ec5605c1bc"), looks := true }, kinds := [], alts := [], laidByText := true, laidKinds := [.data, .handle, .sentinel, .sentinel, .sentinel, .sentinel, .sentinel, .sentinel, .pinned], laidTests := true, laidLooks := .later }
def FnExactHelpCardSaid : Prop := Claim7.holds Tryz.pinned (.plain (OpenSpec.ofChange fnExactHelpSpec)) fnExactHelpCard

/-- THE TIED CARD OF 'laws.FnExactTick'. -/
def fnExactTickCard : Claim7 := { stood := { row := fnExactTickRow, standIns := [], harness := (true, "33595f2f126cac3748f71d7df98ac8756a133825e918a75ede2813ec5605c1bc"), looks := true }, kinds := [], alts := [], laidByText := true, laidKinds := [.data, .handle, .sentinel, .sentinel, .sentinel, .sentinel, .sentinel, .sentinel, .pinned], laidTests := true, laidLooks := .later }
def FnExactTickCardSaid : Prop := Claim7.holds Tryz.pinned (.plain (OpenSpec.ofChange fnExactTickSpec)) fnExactTickCard

/-- THE TIED CARD OF 'laws.FnExactSubscribe'. -/
def fnExactSubscribeCard : Claim7 := { stood := { row := fnExactSubscribeRow, standIns := [], harness := (true, "33595f2f126cac3748f71d7df98ac8756a133825e918a75ede2813ec5605c1bc"), looks := true }, kinds := [], alts := [], laidByText := true, laidKinds := [.data, .handle, .sentinel, .sentinel, .sentinel, .sentinel, .sentinel, .sentinel, .pinned], laidTests := true, laidLooks := .later }
def FnExactSubscribeCardSaid : Prop := Claim7.holds Tryz.pinned (.plain (OpenSpec.ofChange fnExactSubscribeSpec)) fnExactSubscribeCard

/-- THE TIED CARD OF 'laws.FnExactPoll'. -/
def fnExactPollCard : Claim7 := { stood := { row := fnExactPollRow, standIns := [], harness := (true, "33595f2f126cac3748f71d7df98ac8756a133825e918a75ede2813ec5605c1bc"), looks := true }, kinds := [], alts := [], laidByText := true, laidKinds := [.data, .handle, .sentinel, .sentinel, .sentinel, .sentinel, .sentinel, .sentinel, .pinned], laidTests := true, laidLooks := .later }
def FnExactPollCardSaid : Prop := Claim7.holds Tryz.pinned (.plain (OpenSpec.ofChange fnExactPollSpec)) fnExactPollCard

/-- THE TIED CARD OF 'laws.FnExactForget'. -/
def fnExactForgetCard : Claim7 := { stood := { row := fnExactForgetRow, standIns := [], harness := (true, "33595f2f126cac3748f71d7df98ac8756a133825e918a75ede2813ec5605c1bc"), looks := true }, kinds := [], alts := [], laidByText := true, laidKinds := [.data, .handle, .sentinel, .sentinel, .sentinel, .sentinel, .sentinel, .sentinel, .pinned], laidTests := true, laidLooks := .later }
def FnExactForgetCardSaid : Prop := Claim7.holds Tryz.pinned (.plain (OpenSpec.ofChange fnExactForgetSpec)) fnExactForgetCard

/-- THE SECOND FORM's CARD OF 'laws.FnExactInit'. -/
def fnExactInitUptoCard : Claim7 := { stood := { row := fnExactInitUptoRow, standIns := [], harness := (true, "33595f2f126cac3748f71d7df98ac8756a133825e918a75ede2813ec5605c1bc"), looks := true }, kinds := [], alts := [], laidByText := true, laidKinds := [.data, .handle, .sentinel, .sentinel, .sentinel, .sentinel, .sentinel, .sentinel, .pinned], laidTests := true, laidLooks := .later }
def FnExactInitUptoCardSaid : Prop := Claim7.holds Tryz.pinned (.plain (OpenSpec.upto fnExactInitSpec)) fnExactInitUptoCard

/-- THE SECOND FORM's CARD OF 'laws.FnExactBegin'. -/
def fnExactBeginUptoCard : Claim7 := { stood := { row := fnExactBeginUptoRow, standIns := [], harness := (true, "33595f2f126cac3748f71d7df98ac8756a133825e918a75ede2813ec5605c1bc"), looks := true }, kinds := [], alts := [], laidByText := true, laidKinds := [.data, .handle, .sentinel, .sentinel, .sentinel, .sentinel, .sentinel, .sentinel, .pinned], laidTests := true, laidLooks := .later }
def FnExactBeginUptoCardSaid : Prop := Claim7.holds Tryz.pinned (.plain (OpenSpec.upto fnExactBeginSpec)) fnExactBeginUptoCard

/-- THE SECOND FORM's CARD OF 'laws.FnExactSend'. -/
def fnExactSendUptoCard : Claim7 := { stood := { row := fnExactSendUptoRow, standIns := [], harness := (true, "33595f2f126cac3748f71d7df98ac8756a133825e918a75ede2813ec5605c1bc"), looks := true }, kinds := [], alts := [], laidByText := true, laidKinds := [.data, .handle, .sentinel, .sentinel, .sentinel, .sentinel, .sentinel, .sentinel, .pinned], laidTests := true, laidLooks := .later }
def FnExactSendUptoCardSaid : Prop := Claim7.holds Tryz.pinned (.plain (OpenSpec.upto fnExactSendSpec)) fnExactSendUptoCard

/-- THE SECOND FORM's CARD OF 'laws.FnExactEnd'. -/
def fnExactEndUptoCard : Claim7 := { stood := { row := fnExactEndUptoRow, standIns := [], harness := (true, "33595f2f126cac3748f71d7df98ac8756a133825e918a75ede2813ec5605c1bc"), looks := true }, kinds := [], alts := [], laidByText := true, laidKinds := [.data, .handle, .sentinel, .sentinel, .sentinel, .sentinel, .sentinel, .sentinel, .pinned], laidTests := true, laidLooks := .later }
def FnExactEndUptoCardSaid : Prop := Claim7.holds Tryz.pinned (.plain (OpenSpec.upto fnExactEndSpec)) fnExactEndUptoCard

/-- THE SECOND FORM's CARD OF 'laws.FnExactHelp'. -/
def fnExactHelpUptoCard : Claim7 := { stood := { row := fnExactHelpUptoRow, standIns := [], harness := (true, "33595f2f126cac3748f71d7df98ac8756a133825e918a75ede2813ec5605c1bc"), looks := true }, kinds := [], alts := [], laidByText := true, laidKinds := [.data, .handle, .sentinel, .sentinel, .sentinel, .sentinel, .sentinel, .sentinel, .pinned], laidTests := true, laidLooks := .later }
def FnExactHelpUptoCardSaid : Prop := Claim7.holds Tryz.pinned (.plain (OpenSpec.upto fnExactHelpSpec)) fnExactHelpUptoCard

/-- THE SECOND FORM's CARD OF 'laws.FnExactTick'. -/
def fnExactTickUptoCard : Claim7 := { stood := { row := fnExactTickUptoRow, standIns := [], harness := (true, "33595f2f126cac3748f71d7df98ac8756a133825e918a75ede2813ec5605c1bc"), looks := true }, kinds := [], alts := [], laidByText := true, laidKinds := [.data, .handle, .sentinel, .sentinel, .sentinel, .sentinel, .sentinel, .sentinel, .pinned], laidTests := true, laidLooks := .later }
def FnExactTickUptoCardSaid : Prop := Claim7.holds Tryz.pinned (.plain (OpenSpec.upto fnExactTickSpec)) fnExactTickUptoCard

/-- THE SECOND FORM's CARD OF 'laws.FnExactSubscribe'. -/
def fnExactSubscribeUptoCard : Claim7 := { stood := { row := fnExactSubscribeUptoRow, standIns := [], harness := (true, "33595f2f126cac3748f71d7df98ac8756a133825e918a75ede2813ec5605c1bc"), looks := true }, kinds := [], alts := [], laidByText := true, laidKinds := [.data, .handle, .sentinel, .sentinel, .sentinel, .sentinel, .sentinel, .sentinel, .pinned], laidTests := true, laidLooks := .later }
def FnExactSubscribeUptoCardSaid : Prop := Claim7.holds Tryz.pinned (.plain (OpenSpec.upto fnExactSubscribeSpec)) fnExactSubscribeUptoCard

/-- THE SECOND FORM's CARD OF 'laws.FnExactPoll'. -/
def fnExactPollUptoCard : Claim7 := { stood := { row := fnExactPollUptoRow, standIns := [], harness := (true, "33595f2f126cac3748f71d7df98ac8756a133825e918a75ede2813ec5605c1bc"), looks := true }, kinds := [], alts := [], laidByText := true, laidKinds := [.data, .handle, .sentinel, .sentinel, .sentinel, .sentinel, .sentinel, .sentinel, .pinned], laidTests := true, laidLooks := .later }
def FnExactPollUptoCardSaid : Prop := Claim7.holds Tryz.pinned (.plain (OpenSpec.upto fnExactPollSpec)) fnExactPollUptoCard

/-- THE SECOND FORM's CARD OF 'laws.FnExactForget'. -/
def fnExactForgetUptoCard : Claim7 := { stood := { row := fnExactForgetUptoRow, standIns := [], harness := (true, "33595f2f126cac3748f71d7df98ac8756a133825e918a75ede2813ec5605c1bc"), looks := true }, kinds := [], alts := [], laidByText := true, laidKinds := [.data, .handle, .sentinel, .sentinel, .sentinel, .sentinel, .sentinel, .sentinel, .pinned], laidTests := true, laidLooks := .later }
def FnExactForgetUptoCardSaid : Prop := Claim7.holds Tryz.pinned (.plain (OpenSpec.upto fnExactForgetSpec)) fnExactForgetUptoCard
end Rows
end Go.Proofs.YtneiihikcnjglaaGreatDoor
