/-
  DERIVED. GIVEN WITH THE SEED: THE CARDS: each row of YtaablbmgagiajabGreatDoorRows.lean that lists a variable, with what it lists TIED to the program's text (the seventh form; the later family's looks); each row that meets fmt, with fmt's text TOLD by the authors' own Lean function (tested against real Go, not proved from fmt's source: count such statements apart). THE CARD IS WHAT COUNTS. Prove the row's statement (the work); the ties are given (YtaablbmgagiajabGreatDoorTie.lean); close each card by the builder's one call (the guide's Derived/Test/ToyasCard.lean, 'card_holds'). Laid BY PROGRAM, IN A SANDBOX (cutbox-door.mjs). By AI agents, Wed Nov 11 2026. No macro, syntax, notation, axiom, sorry.
-/
import Derived.Test.YtaablbmgagiajabGreatDoorRows
import GoSem.ClaimSeven
namespace Go.Proofs.YtaablbmgagiajabGreatDoor
namespace Rows

/-- THE TIED CARD OF 'triumvirkeep.SystemLatched'. -/
def systemLatchedCard : Claim7 := { stood := { row := systemLatchedRow, standIns := [], harness := (true, "4147c6c005790e2fbe2f9aac25b1c6992f4242d485a0f9362be0decb1b7530db"), looks := true }, kinds := [], alts := [], goes := true, laidByText := true, laidKinds := [.data], laidTests := true, laidLooks := .later }
def SystemLatchedCardSaid : Prop := Claim7.holds Tryz.pinned (.plain (OpenSpec.ofChange systemLatchedSpec)) systemLatchedCard

/-- THE TIED CARD OF 'triumvirkeep.SystemCalm'. -/
def systemCalmCard : Claim7 := { stood := { row := systemCalmRow, standIns := [], harness := (true, "4147c6c005790e2fbe2f9aac25b1c6992f4242d485a0f9362be0decb1b7530db"), looks := true }, kinds := [], alts := [], goes := true, laidByText := true, laidKinds := [.data], laidTests := true, laidLooks := .later }
def SystemCalmCardSaid : Prop := Claim7.holds Tryz.pinned (.plain (OpenSpec.ofChange systemCalmSpec)) systemCalmCard

/-- THE TIED CARD OF 'triumvirkeep.DeskPieces'. -/
def deskPiecesCard : Claim7 := { stood := { row := deskPiecesRow, standIns := [], harness := (true, "4147c6c005790e2fbe2f9aac25b1c6992f4242d485a0f9362be0decb1b7530db"), looks := true }, kinds := [], alts := [], goes := true, laidByText := true, laidKinds := [.data, .data, .data, .handle, .sentinel, .sentinel], laidTests := true, laidLooks := .later }
def DeskPiecesCardSaid : Prop := Claim7.holds Tryz.pinned (.plain (OpenSpec.ofChange deskPiecesSpec)) deskPiecesCard

/-- THE TIED CARD OF 'triumvirkeep.DeskSees'. -/
def deskSeesCard : Claim7 := { stood := { row := deskSeesRow, standIns := [], harness := (true, "4147c6c005790e2fbe2f9aac25b1c6992f4242d485a0f9362be0decb1b7530db"), looks := true }, kinds := [], alts := [], goes := true, laidByText := true, laidKinds := [.data, .data, .data, .handle, .sentinel, .sentinel], laidTests := true, laidLooks := .later }
def DeskSeesCardSaid : Prop := Claim7.holds Tryz.pinned (.plain (OpenSpec.ofChange deskSeesSpec)) deskSeesCard

/-- THE TIED CARD OF 'triumvirkeep.ManyWorkers'. -/
def manyWorkersCard : Claim7 := { stood := { row := manyWorkersRow, standIns := [], harness := (true, "4147c6c005790e2fbe2f9aac25b1c6992f4242d485a0f9362be0decb1b7530db"), looks := true }, kinds := [], alts := [], goes := true, laidByText := true, laidKinds := [.data, .data, .data, .handle, .sentinel, .sentinel], laidTests := true, laidLooks := .later }
def ManyWorkersCardSaid : Prop := Claim7.holds Tryz.pinned (.plain (OpenSpec.ofChange manyWorkersSpec)) manyWorkersCard

/-- THE TIED CARD OF 'triumvirkeep.ManyLimits'. -/
def manyLimitsCard : Claim7 := { stood := { row := manyLimitsRow, standIns := [], harness := (true, "4147c6c005790e2fbe2f9aac25b1c6992f4242d485a0f9362be0decb1b7530db"), looks := true }, kinds := [], alts := [], goes := true, laidByText := true, laidKinds := [.data, .data, .data, .handle, .sentinel, .sentinel], laidTests := true, laidLooks := .later }
def ManyLimitsCardSaid : Prop := Claim7.holds Tryz.pinned (.plain (OpenSpec.ofChange manyLimitsSpec)) manyLimitsCard

/-- THE SECOND FORM's CARD OF 'triumvirkeep.SystemLatched'. -/
def systemLatchedUptoCard : Claim7 := { stood := { row := systemLatchedUptoRow, standIns := [], harness := (true, "4147c6c005790e2fbe2f9aac25b1c6992f4242d485a0f9362be0decb1b7530db"), looks := true }, kinds := [], alts := [], goes := true, laidByText := true, laidKinds := [.data], laidTests := true, laidLooks := .later }
def SystemLatchedUptoCardSaid : Prop := Claim7.holds Tryz.pinned (.plain (OpenSpec.upto systemLatchedSpec)) systemLatchedUptoCard

/-- THE SECOND FORM's CARD OF 'triumvirkeep.SystemCalm'. -/
def systemCalmUptoCard : Claim7 := { stood := { row := systemCalmUptoRow, standIns := [], harness := (true, "4147c6c005790e2fbe2f9aac25b1c6992f4242d485a0f9362be0decb1b7530db"), looks := true }, kinds := [], alts := [], goes := true, laidByText := true, laidKinds := [.data], laidTests := true, laidLooks := .later }
def SystemCalmUptoCardSaid : Prop := Claim7.holds Tryz.pinned (.plain (OpenSpec.upto systemCalmSpec)) systemCalmUptoCard

/-- THE SECOND FORM's CARD OF 'triumvirkeep.DeskPieces'. -/
def deskPiecesUptoCard : Claim7 := { stood := { row := deskPiecesUptoRow, standIns := [], harness := (true, "4147c6c005790e2fbe2f9aac25b1c6992f4242d485a0f9362be0decb1b7530db"), looks := true }, kinds := [], alts := [], goes := true, laidByText := true, laidKinds := [.data, .data, .data, .handle, .sentinel, .sentinel], laidTests := true, laidLooks := .later }
def DeskPiecesUptoCardSaid : Prop := Claim7.holds Tryz.pinned (.plain (OpenSpec.upto deskPiecesSpec)) deskPiecesUptoCard

/-- THE SECOND FORM's CARD OF 'triumvirkeep.DeskSees'. -/
def deskSeesUptoCard : Claim7 := { stood := { row := deskSeesUptoRow, standIns := [], harness := (true, "4147c6c005790e2fbe2f9aac25b1c6992f4242d485a0f9362be0decb1b7530db"), looks := true }, kinds := [], alts := [], goes := true, laidByText := true, laidKinds := [.data, .data, .data, .handle, .sentinel, .sentinel], laidTests := true, laidLooks := .later }
def DeskSeesUptoCardSaid : Prop := Claim7.holds Tryz.pinned (.plain (OpenSpec.upto deskSeesSpec)) deskSeesUptoCard

/-- THE SECOND FORM's CARD OF 'triumvirkeep.ManyWorkers'. -/
def manyWorkersUptoCard : Claim7 := { stood := { row := manyWorkersUptoRow, standIns := [], harness := (true, "4147c6c005790e2fbe2f9aac25b1c6992f4242d485a0f9362be0decb1b7530db"), looks := true }, kinds := [], alts := [], goes := true, laidByText := true, laidKinds := [.data, .data, .data, .handle, .sentinel, .sentinel], laidTests := true, laidLooks := .later }
def ManyWorkersUptoCardSaid : Prop := Claim7.holds Tryz.pinned (.plain (OpenSpec.upto manyWorkersSpec)) manyWorkersUptoCard

/-- THE SECOND FORM's CARD OF 'triumvirkeep.ManyLimits'. -/
def manyLimitsUptoCard : Claim7 := { stood := { row := manyLimitsUptoRow, standIns := [], harness := (true, "4147c6c005790e2fbe2f9aac25b1c6992f4242d485a0f9362be0decb1b7530db"), looks := true }, kinds := [], alts := [], goes := true, laidByText := true, laidKinds := [.data, .data, .data, .handle, .sentinel, .sentinel], laidTests := true, laidLooks := .later }
def ManyLimitsUptoCardSaid : Prop := Claim7.holds Tryz.pinned (.plain (OpenSpec.upto manyLimitsSpec)) manyLimitsUptoCard
end Rows
end Go.Proofs.YtaablbmgagiajabGreatDoor
