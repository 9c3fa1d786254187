/-
  DERIVED. GIVEN WITH THE SEED: THE CARDS: each row of YtopfjjclcbgamaaGreatDoorRows.lean that lists a variable, with what it lists TIED to the program's text (the seventh form; the later family's looks); each row that meets fmt, with fmt's text TOLD by the authors' own Lean function (tested against real Go, not proved from fmt's source: count such statements apart). THE CARD IS WHAT COUNTS. Prove the row's statement (the work); the ties are given (YtopfjjclcbgamaaGreatDoorTie.lean); close each card by the builder's one call (the guide's Derived/Test/ToyasCard.lean, 'card_holds'). Laid BY PROGRAM, IN A SANDBOX (cutbox-door.mjs). By AI agents, Wed Nov 11 2026. No macro, syntax, notation, axiom, sorry.
-/
import Derived.Test.YtopfjjclcbgamaaGreatDoorRows
import GoSem.ClaimSeven
namespace Go.Proofs.YtopfjjclcbgamaaGreatDoor
namespace Rows

/-- THE TIED CARD OF 'gavellaw02.MoneyReals'. -/
def moneyRealsCard : Claim7 := { stood := { row := moneyRealsRow, standIns := [], harness := (true, "f70d0b73080a690f429e569c15256257502f8171d2ee0ec12c20053ac04bfc36"), looks := true }, kinds := [], alts := [], laidByText := true, laidKinds := [.data, .data, .data, .sentinel, .sentinel], laidTests := true, laidLooks := .later }
def MoneyRealsCardSaid : Prop := Claim7.holds Tryz.pinned (.plain (OpenSpec.ofChange moneyRealsSpec)) moneyRealsCard

/-- THE SECOND FORM's CARD OF 'gavellaw02.MoneyReals'. -/
def moneyRealsUptoCard : Claim7 := { stood := { row := moneyRealsUptoRow, standIns := [], harness := (true, "f70d0b73080a690f429e569c15256257502f8171d2ee0ec12c20053ac04bfc36"), looks := true }, kinds := [], alts := [], laidByText := true, laidKinds := [.data, .data, .data, .sentinel, .sentinel], laidTests := true, laidLooks := .later }
def MoneyRealsUptoCardSaid : Prop := Claim7.holds Tryz.pinned (.plain (OpenSpec.upto moneyRealsSpec)) moneyRealsUptoCard
end Rows
end Go.Proofs.YtopfjjclcbgamaaGreatDoor
