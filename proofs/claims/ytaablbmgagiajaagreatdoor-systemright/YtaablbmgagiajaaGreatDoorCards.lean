/-
  DERIVED. GIVEN WITH THE SEED: THE CARDS: each row of YtaablbmgagiajaaGreatDoorRows.lean that lists a variable, with what it lists TIED to the program's text (the seventh form; the later family's looks); each row that meets fmt, with fmt's text TOLD by the authors' own Lean function (tested against real Go, not proved from fmt's source: count such statements apart). THE CARD IS WHAT COUNTS. Prove the row's statement (the work); the ties are given (YtaablbmgagiajaaGreatDoorTie.lean); close each card by the builder's one call (the guide's Derived/Test/ToyasCard.lean, 'card_holds'). Laid BY PROGRAM, IN A SANDBOX (cutbox-door.mjs). By AI agents, Wed Nov 11 2026. No macro, syntax, notation, axiom, sorry.
-/
import Derived.Test.YtaablbmgagiajaaGreatDoorRows
import GoSem.ClaimSeven
namespace Go.Proofs.YtaablbmgagiajaaGreatDoor
namespace Rows

/-- THE TIED CARD OF 'triumvirkeep.SystemRight'. -/
def systemRightCard : Claim7 := { stood := { row := systemRightRow, standIns := [], harness := (true, "5e596f67f516b4fd6944a531733323d8d11002d019d93bdf62b1941ea6cce311"), looks := false }, kinds := [], alts := [], laidByText := true, laidKinds := [.data], laidTests := true, laidLooks := .later }
def SystemRightCardSaid : Prop := Claim7.holds Tryz.pinned (.plain (OpenSpec.ofChange systemRightSpec)) systemRightCard

/-- THE TIED CARD OF 'triumvirkeep.SystemTrue'. -/
def systemTrueCard : Claim7 := { stood := { row := systemTrueRow, standIns := [], harness := (true, "5e596f67f516b4fd6944a531733323d8d11002d019d93bdf62b1941ea6cce311"), looks := false }, kinds := [], alts := [], laidByText := true, laidKinds := [.data], laidTests := true, laidLooks := .later }
def SystemTrueCardSaid : Prop := Claim7.holds Tryz.pinned (.plain (OpenSpec.ofChange systemTrueSpec)) systemTrueCard

/-- THE SECOND FORM's CARD OF 'triumvirkeep.SystemRight'. -/
def systemRightUptoCard : Claim7 := { stood := { row := systemRightUptoRow, standIns := [], harness := (true, "5e596f67f516b4fd6944a531733323d8d11002d019d93bdf62b1941ea6cce311"), looks := false }, kinds := [], alts := [], laidByText := true, laidKinds := [.data], laidTests := true, laidLooks := .later }
def SystemRightUptoCardSaid : Prop := Claim7.holds Tryz.pinned (.plain (OpenSpec.upto systemRightSpec)) systemRightUptoCard

/-- THE SECOND FORM's CARD OF 'triumvirkeep.SystemTrue'. -/
def systemTrueUptoCard : Claim7 := { stood := { row := systemTrueUptoRow, standIns := [], harness := (true, "5e596f67f516b4fd6944a531733323d8d11002d019d93bdf62b1941ea6cce311"), looks := false }, kinds := [], alts := [], laidByText := true, laidKinds := [.data], laidTests := true, laidLooks := .later }
def SystemTrueUptoCardSaid : Prop := Claim7.holds Tryz.pinned (.plain (OpenSpec.upto systemTrueSpec)) systemTrueUptoCard
end Rows
end Go.Proofs.YtaablbmgagiajaaGreatDoor
