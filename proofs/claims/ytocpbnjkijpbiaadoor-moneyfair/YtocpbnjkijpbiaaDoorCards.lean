/-
  DERIVED. GIVEN WITH THE SEED: THE CARDS: each row of YtocpbnjkijpbiaaDoorRows.lean that lists a variable, with what it lists TIED to the program's text (the seventh form; the later family's looks); each row that meets fmt, with fmt's text TOLD by the authors' own Lean function (tested against real Go, not proved from fmt's source: count such statements apart). THE CARD IS WHAT COUNTS. Prove the row's statement (the work); the ties are given (YtocpbnjkijpbiaaDoorTie.lean); close each card by the builder's one call (the guide's Derived/Test/ToyasCard.lean, 'card_holds'). Laid BY PROGRAM, IN A SANDBOX (cutbox-door.mjs). By AI agents, Wed Nov 11 2026. No macro, syntax, notation, axiom, sorry.
-/
import Derived.Test.YtocpbnjkijpbiaaDoorRows
import GoSem.ClaimSeven
namespace Go.Proofs.YtocpbnjkijpbiaaDoor
namespace Rows

/-- THE TIED CARD OF 'gavellaw02.MoneyFair'. -/
def moneyFairCard : Claim7 := { stood := { row := moneyFairRow, standIns := [], harness := (true, "42b26c894d929174266c7b2a30e6cad2d9e283d9e0fc8dd29ed456e115d1dd3f"), looks := true }, kinds := [], alts := [], laidByText := true, laidKinds := [.data, .data, .data, .sentinel, .sentinel], laidTests := true, laidLooks := .later }
def MoneyFairCardSaid : Prop := Claim7.holds Tryd.pinned (.plain (OpenSpec.ofChange moneyFairSpec)) moneyFairCard

/-- THE SECOND FORM's CARD OF 'gavellaw02.MoneyFair'. -/
def moneyFairUptoCard : Claim7 := { stood := { row := moneyFairUptoRow, standIns := [], harness := (true, "42b26c894d929174266c7b2a30e6cad2d9e283d9e0fc8dd29ed456e115d1dd3f"), looks := true }, kinds := [], alts := [], laidByText := true, laidKinds := [.data, .data, .data, .sentinel, .sentinel], laidTests := true, laidLooks := .later }
def MoneyFairUptoCardSaid : Prop := Claim7.holds Tryd.pinned (.plain (OpenSpec.upto moneyFairSpec)) moneyFairUptoCard
end Rows
end Go.Proofs.YtocpbnjkijpbiaaDoor
