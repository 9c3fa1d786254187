/-
  DERIVED. GIVEN WITH THE SEED: THE CARDS: each row of YtnambpbhkehijaaDoorRows.lean that lists a variable, with what it lists TIED to the program's text (the seventh form; the later family's looks); each row that meets fmt, with fmt's text TOLD by the authors' own Lean function (tested against real Go, not proved from fmt's source: count such statements apart). THE CARD IS WHAT COUNTS. Prove the row's statement (the work); the ties are given (YtnambpbhkehijaaDoorTie.lean); close each card by the builder's one call (the guide's Derived/Test/ToyasCard.lean, 'card_holds'). Laid BY PROGRAM, IN A SANDBOX (cutbox-door.mjs). By AI agents, Wed Nov 11 2026. No macro, syntax, notation, axiom, sorry.
-/
import Derived.Test.YtnambpbhkehijaaDoorRows
import GoSem.ClaimSeven
namespace Go.Proofs.YtnambpbhkehijaaDoor
namespace Rows

/-- THE TIED CARD OF 'gavellaw08.OffersWorths'. -/
def offersWorthsCard : Claim7 := { stood := { row := offersWorthsRow, standIns := [], harness := (true, "5352c719596a01479c2c417dbec3a63644cabcd7584532322c6594d72bd9bde9"), looks := false }, kinds := [], alts := [], laidByText := true, laidKinds := [.data], laidTests := true, laidLooks := .later }
def OffersWorthsCardSaid : Prop := Claim7.holds Tryd.pinned (.plain (OpenSpec.ofChange offersWorthsSpec)) offersWorthsCard

/-- THE TIED CARD OF 'gavellaw08.OffersChoices'. -/
def offersChoicesCard : Claim7 := { stood := { row := offersChoicesRow, standIns := [], harness := (true, "5352c719596a01479c2c417dbec3a63644cabcd7584532322c6594d72bd9bde9"), looks := false }, kinds := [], alts := [], laidByText := true, laidKinds := [.data], laidTests := true, laidLooks := .later }
def OffersChoicesCardSaid : Prop := Claim7.holds Tryd.pinned (.plain (OpenSpec.ofChange offersChoicesSpec)) offersChoicesCard

/-- THE TIED CARD OF 'gavellaw08.OffersWith'. -/
def offersWithCard : Claim7 := { stood := { row := offersWithRow, standIns := [], harness := (true, "5352c719596a01479c2c417dbec3a63644cabcd7584532322c6594d72bd9bde9"), looks := false }, kinds := [], alts := [], laidByText := true, laidKinds := [.data], laidTests := true, laidLooks := .later }
def OffersWithCardSaid : Prop := Claim7.holds Tryd.pinned (.plain (OpenSpec.ofChange offersWithSpec)) offersWithCard

/-- THE SECOND FORM's CARD OF 'gavellaw08.OffersWorths'. -/
def offersWorthsUptoCard : Claim7 := { stood := { row := offersWorthsUptoRow, standIns := [], harness := (true, "5352c719596a01479c2c417dbec3a63644cabcd7584532322c6594d72bd9bde9"), looks := false }, kinds := [], alts := [], laidByText := true, laidKinds := [.data], laidTests := true, laidLooks := .later }
def OffersWorthsUptoCardSaid : Prop := Claim7.holds Tryd.pinned (.plain (OpenSpec.upto offersWorthsSpec)) offersWorthsUptoCard

/-- THE SECOND FORM's CARD OF 'gavellaw08.OffersChoices'. -/
def offersChoicesUptoCard : Claim7 := { stood := { row := offersChoicesUptoRow, standIns := [], harness := (true, "5352c719596a01479c2c417dbec3a63644cabcd7584532322c6594d72bd9bde9"), looks := false }, kinds := [], alts := [], laidByText := true, laidKinds := [.data], laidTests := true, laidLooks := .later }
def OffersChoicesUptoCardSaid : Prop := Claim7.holds Tryd.pinned (.plain (OpenSpec.upto offersChoicesSpec)) offersChoicesUptoCard

/-- THE SECOND FORM's CARD OF 'gavellaw08.OffersWith'. -/
def offersWithUptoCard : Claim7 := { stood := { row := offersWithUptoRow, standIns := [], harness := (true, "5352c719596a01479c2c417dbec3a63644cabcd7584532322c6594d72bd9bde9"), looks := false }, kinds := [], alts := [], laidByText := true, laidKinds := [.data], laidTests := true, laidLooks := .later }
def OffersWithUptoCardSaid : Prop := Claim7.holds Tryd.pinned (.plain (OpenSpec.upto offersWithSpec)) offersWithUptoCard
end Rows
end Go.Proofs.YtnambpbhkehijaaDoor
