/-
  DERIVED. GIVEN WITH THE SEED: THE CARDS: each row of YtopfjjclcbgamaaDoorRows.lean that lists a variable, with what it lists TIED to the program's text (the seventh form; the later family's looks); each row that meets fmt, with fmt's text TOLD by the authors' own Lean function (tested against real Go, not proved from fmt's source: count such statements apart). THE CARD IS WHAT COUNTS. Prove the row's statement (the work); the ties are given (YtopfjjclcbgamaaDoorTie.lean); close each card by the builder's one call (the guide's Derived/Test/ToyasCard.lean, 'card_holds'). Laid BY PROGRAM, IN A SANDBOX (cutbox-door.mjs). By AI agents, Wed Nov 11 2026. No macro, syntax, notation, axiom, sorry.
-/
import Derived.Test.YtopfjjclcbgamaaDoorRows
import GoSem.ClaimSeven
namespace Go.Proofs.YtopfjjclcbgamaaDoor
namespace Rows

/-- THE TIED CARD OF 'gavellaw02.MoneySums'. -/
def moneySumsCard : Claim7 := { stood := { row := moneySumsRow, standIns := [], harness := (true, "fb6d8151aa4a2163b4c9c7dad53f05a06d09ae293f0e9b665c310f5739f9c67c"), looks := true }, kinds := [], alts := [], laidByText := true, laidKinds := [.data, .data, .data, .sentinel, .sentinel], laidTests := true, laidLooks := .later }
def MoneySumsCardSaid : Prop := Claim7.holds Tryd.pinned (.plain (OpenSpec.ofChange moneySumsSpec)) moneySumsCard

/-- THE TIED CARD OF 'gavellaw02.MoneyShares'. -/
def moneySharesCard : Claim7 := { stood := { row := moneySharesRow, standIns := [], harness := (true, "fb6d8151aa4a2163b4c9c7dad53f05a06d09ae293f0e9b665c310f5739f9c67c"), looks := true }, kinds := [], alts := [], laidByText := true, laidKinds := [.data, .data, .data, .sentinel, .sentinel], laidTests := true, laidLooks := .later }
def MoneySharesCardSaid : Prop := Claim7.holds Tryd.pinned (.plain (OpenSpec.ofChange moneySharesSpec)) moneySharesCard

/-- THE TIED CARD OF 'gavellaw02.MoneyEvens'. -/
def moneyEvensCard : Claim7 := { stood := { row := moneyEvensRow, standIns := [], harness := (true, "fb6d8151aa4a2163b4c9c7dad53f05a06d09ae293f0e9b665c310f5739f9c67c"), looks := true }, kinds := [], alts := [], laidByText := true, laidKinds := [.data, .data, .data, .sentinel, .sentinel], laidTests := true, laidLooks := .later }
def MoneyEvensCardSaid : Prop := Claim7.holds Tryd.pinned (.plain (OpenSpec.ofChange moneyEvensSpec)) moneyEvensCard

/-- THE TIED CARD OF 'gavellaw02.MoneyMeans'. -/
def moneyMeansCard : Claim7 := { stood := { row := moneyMeansRow, standIns := [], harness := (true, "fb6d8151aa4a2163b4c9c7dad53f05a06d09ae293f0e9b665c310f5739f9c67c"), looks := true }, kinds := [], alts := [], laidByText := true, laidKinds := [.data, .data, .data, .sentinel, .sentinel], laidTests := true, laidLooks := .later }
def MoneyMeansCardSaid : Prop := Claim7.holds Tryd.pinned (.plain (OpenSpec.ofChange moneyMeansSpec)) moneyMeansCard

/-- THE TIED CARD OF 'gavellaw02.MoneyTexts'. -/
def moneyTextsCard : Claim7 := { stood := { row := moneyTextsRow, standIns := [], harness := (true, "fb6d8151aa4a2163b4c9c7dad53f05a06d09ae293f0e9b665c310f5739f9c67c"), looks := true }, kinds := [], alts := [], laidByText := true, laidKinds := [.data, .data, .data, .sentinel, .sentinel], laidTests := true, laidLooks := .later }
def MoneyTextsCardSaid : Prop := Claim7.holds Tryd.pinned (.plain (OpenSpec.ofChange moneyTextsSpec)) moneyTextsCard

/-- THE SECOND FORM's CARD OF 'gavellaw02.MoneySums'. -/
def moneySumsUptoCard : Claim7 := { stood := { row := moneySumsUptoRow, standIns := [], harness := (true, "fb6d8151aa4a2163b4c9c7dad53f05a06d09ae293f0e9b665c310f5739f9c67c"), looks := true }, kinds := [], alts := [], laidByText := true, laidKinds := [.data, .data, .data, .sentinel, .sentinel], laidTests := true, laidLooks := .later }
def MoneySumsUptoCardSaid : Prop := Claim7.holds Tryd.pinned (.plain (OpenSpec.upto moneySumsSpec)) moneySumsUptoCard

/-- THE SECOND FORM's CARD OF 'gavellaw02.MoneyShares'. -/
def moneySharesUptoCard : Claim7 := { stood := { row := moneySharesUptoRow, standIns := [], harness := (true, "fb6d8151aa4a2163b4c9c7dad53f05a06d09ae293f0e9b665c310f5739f9c67c"), looks := true }, kinds := [], alts := [], laidByText := true, laidKinds := [.data, .data, .data, .sentinel, .sentinel], laidTests := true, laidLooks := .later }
def MoneySharesUptoCardSaid : Prop := Claim7.holds Tryd.pinned (.plain (OpenSpec.upto moneySharesSpec)) moneySharesUptoCard

/-- THE SECOND FORM's CARD OF 'gavellaw02.MoneyEvens'. -/
def moneyEvensUptoCard : Claim7 := { stood := { row := moneyEvensUptoRow, standIns := [], harness := (true, "fb6d8151aa4a2163b4c9c7dad53f05a06d09ae293f0e9b665c310f5739f9c67c"), looks := true }, kinds := [], alts := [], laidByText := true, laidKinds := [.data, .data, .data, .sentinel, .sentinel], laidTests := true, laidLooks := .later }
def MoneyEvensUptoCardSaid : Prop := Claim7.holds Tryd.pinned (.plain (OpenSpec.upto moneyEvensSpec)) moneyEvensUptoCard

/-- THE SECOND FORM's CARD OF 'gavellaw02.MoneyMeans'. -/
def moneyMeansUptoCard : Claim7 := { stood := { row := moneyMeansUptoRow, standIns := [], harness := (true, "fb6d8151aa4a2163b4c9c7dad53f05a06d09ae293f0e9b665c310f5739f9c67c"), looks := true }, kinds := [], alts := [], laidByText := true, laidKinds := [.data, .data, .data, .sentinel, .sentinel], laidTests := true, laidLooks := .later }
def MoneyMeansUptoCardSaid : Prop := Claim7.holds Tryd.pinned (.plain (OpenSpec.upto moneyMeansSpec)) moneyMeansUptoCard

/-- THE SECOND FORM's CARD OF 'gavellaw02.MoneyTexts'. -/
def moneyTextsUptoCard : Claim7 := { stood := { row := moneyTextsUptoRow, standIns := [], harness := (true, "fb6d8151aa4a2163b4c9c7dad53f05a06d09ae293f0e9b665c310f5739f9c67c"), looks := true }, kinds := [], alts := [], laidByText := true, laidKinds := [.data, .data, .data, .sentinel, .sentinel], laidTests := true, laidLooks := .later }
def MoneyTextsUptoCardSaid : Prop := Claim7.holds Tryd.pinned (.plain (OpenSpec.upto moneyTextsSpec)) moneyTextsUptoCard
end Rows
end Go.Proofs.YtopfjjclcbgamaaDoor
