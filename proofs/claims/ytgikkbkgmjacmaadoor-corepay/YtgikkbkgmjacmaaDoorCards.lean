/-
  DERIVED. GIVEN WITH THE SEED: THE CARDS: each row of YtgikkbkgmjacmaaDoorRows.lean that lists a variable, with what it lists TIED to the program's text (the seventh form; the later family's looks); each row that meets fmt, with fmt's text TOLD by the authors' own Lean function (tested against real Go, not proved from fmt's source: count such statements apart). THE CARD IS WHAT COUNTS. Prove the row's statement (the work); the ties are given (YtgikkbkgmjacmaaDoorTie.lean); close each card by the builder's one call (the guide's Derived/Test/ToyasCard.lean, 'card_holds'). Laid BY PROGRAM, IN A SANDBOX (cutbox-door.mjs). By AI agents, Wed Nov 11 2026. No macro, syntax, notation, axiom, sorry.
-/
import Derived.Test.YtgikkbkgmjacmaaDoorRows
import GoSem.ClaimSeven
namespace Go.Proofs.YtgikkbkgmjacmaaDoor
namespace Rows

/-- THE TIED CARD OF 'gavellaw18.CorePay'. -/
def corePayCard : Claim7 := { stood := { row := corePayRow, standIns := [], harness := (true, "38a092784677ba2aa1490abb4d462fb47cc1258c0bdd5244467c32027de547b5"), looks := false }, kinds := [], alts := [], laidByText := true, laidKinds := [.data], laidTests := true, laidLooks := .later }
def CorePayCardSaid : Prop := Claim7.holds Tryd.pinned (.plain (OpenSpec.ofChange corePaySpec)) corePayCard

/-- THE TIED CARD OF 'gavellaw18.CoreStands'. -/
def coreStandsCard : Claim7 := { stood := { row := coreStandsRow, standIns := [], harness := (true, "38a092784677ba2aa1490abb4d462fb47cc1258c0bdd5244467c32027de547b5"), looks := false }, kinds := [], alts := [], laidByText := true, laidKinds := [.data], laidTests := true, laidLooks := .later }
def CoreStandsCardSaid : Prop := Claim7.holds Tryd.pinned (.plain (OpenSpec.ofChange coreStandsSpec)) coreStandsCard

/-- THE TIED CARD OF 'gavellaw18.CoreLess'. -/
def coreLessCard : Claim7 := { stood := { row := coreLessRow, standIns := [], harness := (true, "38a092784677ba2aa1490abb4d462fb47cc1258c0bdd5244467c32027de547b5"), looks := false }, kinds := [], alts := [], laidByText := true, laidKinds := [.data], laidTests := true, laidLooks := .later }
def CoreLessCardSaid : Prop := Claim7.holds Tryd.pinned (.plain (OpenSpec.ofChange coreLessSpec)) coreLessCard

/-- THE TIED CARD OF 'gavellaw08.OffersWith'. -/
def offersWithCard : Claim7 := { stood := { row := offersWithRow, standIns := [], harness := (true, "38a092784677ba2aa1490abb4d462fb47cc1258c0bdd5244467c32027de547b5"), looks := false }, kinds := [], alts := [], laidByText := true, laidKinds := [.data], laidTests := true, laidLooks := .later }
def OffersWithCardSaid : Prop := Claim7.holds Tryd.pinned (.plain (OpenSpec.ofChange offersWithSpec)) offersWithCard

/-- THE TIED CARD OF 'gavellaw08.OffersChoices'. -/
def offersChoicesCard : Claim7 := { stood := { row := offersChoicesRow, standIns := [], harness := (true, "38a092784677ba2aa1490abb4d462fb47cc1258c0bdd5244467c32027de547b5"), looks := false }, kinds := [], alts := [], laidByText := true, laidKinds := [.data], laidTests := true, laidLooks := .later }
def OffersChoicesCardSaid : Prop := Claim7.holds Tryd.pinned (.plain (OpenSpec.ofChange offersChoicesSpec)) offersChoicesCard

/-- THE SECOND FORM's CARD OF 'gavellaw18.CorePay'. -/
def corePayUptoCard : Claim7 := { stood := { row := corePayUptoRow, standIns := [], harness := (true, "38a092784677ba2aa1490abb4d462fb47cc1258c0bdd5244467c32027de547b5"), looks := false }, kinds := [], alts := [], laidByText := true, laidKinds := [.data], laidTests := true, laidLooks := .later }
def CorePayUptoCardSaid : Prop := Claim7.holds Tryd.pinned (.plain (OpenSpec.upto corePaySpec)) corePayUptoCard

/-- THE SECOND FORM's CARD OF 'gavellaw18.CoreStands'. -/
def coreStandsUptoCard : Claim7 := { stood := { row := coreStandsUptoRow, standIns := [], harness := (true, "38a092784677ba2aa1490abb4d462fb47cc1258c0bdd5244467c32027de547b5"), looks := false }, kinds := [], alts := [], laidByText := true, laidKinds := [.data], laidTests := true, laidLooks := .later }
def CoreStandsUptoCardSaid : Prop := Claim7.holds Tryd.pinned (.plain (OpenSpec.upto coreStandsSpec)) coreStandsUptoCard

/-- THE SECOND FORM's CARD OF 'gavellaw18.CoreLess'. -/
def coreLessUptoCard : Claim7 := { stood := { row := coreLessUptoRow, standIns := [], harness := (true, "38a092784677ba2aa1490abb4d462fb47cc1258c0bdd5244467c32027de547b5"), looks := false }, kinds := [], alts := [], laidByText := true, laidKinds := [.data], laidTests := true, laidLooks := .later }
def CoreLessUptoCardSaid : Prop := Claim7.holds Tryd.pinned (.plain (OpenSpec.upto coreLessSpec)) coreLessUptoCard

/-- THE SECOND FORM's CARD OF 'gavellaw08.OffersWith'. -/
def offersWithUptoCard : Claim7 := { stood := { row := offersWithUptoRow, standIns := [], harness := (true, "38a092784677ba2aa1490abb4d462fb47cc1258c0bdd5244467c32027de547b5"), looks := false }, kinds := [], alts := [], laidByText := true, laidKinds := [.data], laidTests := true, laidLooks := .later }
def OffersWithUptoCardSaid : Prop := Claim7.holds Tryd.pinned (.plain (OpenSpec.upto offersWithSpec)) offersWithUptoCard

/-- THE SECOND FORM's CARD OF 'gavellaw08.OffersChoices'. -/
def offersChoicesUptoCard : Claim7 := { stood := { row := offersChoicesUptoRow, standIns := [], harness := (true, "38a092784677ba2aa1490abb4d462fb47cc1258c0bdd5244467c32027de547b5"), looks := false }, kinds := [], alts := [], laidByText := true, laidKinds := [.data], laidTests := true, laidLooks := .later }
def OffersChoicesUptoCardSaid : Prop := Claim7.holds Tryd.pinned (.plain (OpenSpec.upto offersChoicesSpec)) offersChoicesUptoCard
end Rows
end Go.Proofs.YtgikkbkgmjacmaaDoor
