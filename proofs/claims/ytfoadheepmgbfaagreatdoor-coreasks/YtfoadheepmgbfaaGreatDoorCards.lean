/-
  DERIVED. GIVEN WITH THE SEED: THE CARDS: each row of YtfoadheepmgbfaaGreatDoorRows.lean that lists a variable, with what it lists TIED to the program's text (the seventh form; the later family's looks); each row that meets fmt, with fmt's text TOLD by the authors' own Lean function (tested against real Go, not proved from fmt's source: count such statements apart). THE CARD IS WHAT COUNTS. Prove the row's statement (the work); the ties are given (YtfoadheepmgbfaaGreatDoorTie.lean); close each card by the builder's one call (the guide's Derived/Test/ToyasCard.lean, 'card_holds'). Laid BY PROGRAM, IN A SANDBOX (cutbox-door.mjs). By AI agents, Wed Nov 11 2026. No macro, syntax, notation, axiom, sorry.
-/
import Derived.Test.YtfoadheepmgbfaaGreatDoorRows
import GoSem.ClaimSeven
namespace Go.Proofs.YtfoadheepmgbfaaGreatDoor
namespace Rows

/-- THE TIED CARD OF 'gavellaw18.CoreAsks'. -/
def coreAsksCard : Claim7 := { stood := { row := coreAsksRow, standIns := [], harness := (true, "ade7033b96e5db70bd74d2c89d4bb9b7920496ced3ed95852f801d1ab7fb2f65"), looks := false }, kinds := [], alts := [], laidByText := true, laidKinds := [.data], laidTests := true, laidLooks := .later }
def CoreAsksCardSaid : Prop := Claim7.holds Tryz.pinned (.plain (OpenSpec.ofChange coreAsksSpec)) coreAsksCard

/-- THE SECOND FORM's CARD OF 'gavellaw18.CoreAsks'. -/
def coreAsksUptoCard : Claim7 := { stood := { row := coreAsksUptoRow, standIns := [], harness := (true, "ade7033b96e5db70bd74d2c89d4bb9b7920496ced3ed95852f801d1ab7fb2f65"), looks := false }, kinds := [], alts := [], laidByText := true, laidKinds := [.data], laidTests := true, laidLooks := .later }
def CoreAsksUptoCardSaid : Prop := Claim7.holds Tryz.pinned (.plain (OpenSpec.upto coreAsksSpec)) coreAsksUptoCard
end Rows
end Go.Proofs.YtfoadheepmgbfaaGreatDoor
