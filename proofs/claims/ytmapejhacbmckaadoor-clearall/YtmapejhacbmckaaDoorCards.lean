/-
  DERIVED. GIVEN WITH THE SEED: THE CARDS: each row of YtmapejhacbmckaaDoorRows.lean that lists a variable, with what it lists TIED to the program's text (the seventh form; the later family's looks); each row that meets fmt, with fmt's text TOLD by the authors' own Lean function (tested against real Go, not proved from fmt's source: count such statements apart). THE CARD IS WHAT COUNTS. Prove the row's statement (the work); the ties are given (YtmapejhacbmckaaDoorTie.lean); close each card by the builder's one call (the guide's Derived/Test/ToyasCard.lean, 'card_holds'). Laid BY PROGRAM, IN A SANDBOX (cutbox-door.mjs). By AI agents, Wed Nov 11 2026. No macro, syntax, notation, axiom, sorry.
-/
import Derived.Test.YtmapejhacbmckaaDoorRows
import GoSem.ClaimSeven
namespace Go.Proofs.YtmapejhacbmckaaDoor
namespace Rows

/-- THE TIED CARD OF 'gavellaw15.ClearBest'. -/
def clearBestCard : Claim7 := { stood := { row := clearBestRow, standIns := [], harness := (true, "ac4a6b2d335cb2ae35c682625552c7d906713acb840f63d44a027a2729bde7d3"), looks := false }, kinds := [], alts := [], laidByText := true, laidKinds := [.data], laidTests := true, laidLooks := .later }
def ClearBestCardSaid : Prop := Claim7.holds Tryd.pinned (.plain (OpenSpec.ofChange clearBestSpec)) clearBestCard

/-- THE TIED CARD OF 'gavellaw15.ClearPart'. -/
def clearPartCard : Claim7 := { stood := { row := clearPartRow, standIns := [], harness := (true, "ac4a6b2d335cb2ae35c682625552c7d906713acb840f63d44a027a2729bde7d3"), looks := false }, kinds := [], alts := [], laidByText := true, laidKinds := [.data], laidTests := true, laidLooks := .later }
def ClearPartCardSaid : Prop := Claim7.holds Tryd.pinned (.plain (OpenSpec.ofChange clearPartSpec)) clearPartCard

/-- THE TIED CARD OF 'gavellaw15.ClearAll'. -/
def clearAllCard : Claim7 := { stood := { row := clearAllRow, standIns := [], harness := (true, "ac4a6b2d335cb2ae35c682625552c7d906713acb840f63d44a027a2729bde7d3"), looks := false }, kinds := [], alts := [], laidByText := true, laidKinds := [.data], laidTests := true, laidLooks := .later }
def ClearAllCardSaid : Prop := Claim7.holds Tryd.pinned (.plain (OpenSpec.ofChange clearAllSpec)) clearAllCard

/-- THE TIED CARD OF 'gavellaw15.ClearRank'. -/
def clearRankCard : Claim7 := { stood := { row := clearRankRow, standIns := [], harness := (true, "ac4a6b2d335cb2ae35c682625552c7d906713acb840f63d44a027a2729bde7d3"), looks := false }, kinds := [], alts := [], laidByText := true, laidKinds := [.data], laidTests := true, laidLooks := .later }
def ClearRankCardSaid : Prop := Claim7.holds Tryd.pinned (.plain (OpenSpec.ofChange clearRankSpec)) clearRankCard

/-- THE TIED CARD OF 'gavellaw15.ClearTops'. -/
def clearTopsCard : Claim7 := { stood := { row := clearTopsRow, standIns := [], harness := (true, "ac4a6b2d335cb2ae35c682625552c7d906713acb840f63d44a027a2729bde7d3"), looks := false }, kinds := [], alts := [], laidByText := true, laidKinds := [.data], laidTests := true, laidLooks := .later }
def ClearTopsCardSaid : Prop := Claim7.holds Tryd.pinned (.plain (OpenSpec.ofChange clearTopsSpec)) clearTopsCard

/-- THE TIED CARD OF 'gavellaw15.ClearMore'. -/
def clearMoreCard : Claim7 := { stood := { row := clearMoreRow, standIns := [], harness := (true, "ac4a6b2d335cb2ae35c682625552c7d906713acb840f63d44a027a2729bde7d3"), looks := false }, kinds := [], alts := [], laidByText := true, laidKinds := [.data], laidTests := true, laidLooks := .later }
def ClearMoreCardSaid : Prop := Claim7.holds Tryd.pinned (.plain (OpenSpec.ofChange clearMoreSpec)) clearMoreCard

/-- THE SECOND FORM's CARD OF 'gavellaw15.ClearBest'. -/
def clearBestUptoCard : Claim7 := { stood := { row := clearBestUptoRow, standIns := [], harness := (true, "ac4a6b2d335cb2ae35c682625552c7d906713acb840f63d44a027a2729bde7d3"), looks := false }, kinds := [], alts := [], laidByText := true, laidKinds := [.data], laidTests := true, laidLooks := .later }
def ClearBestUptoCardSaid : Prop := Claim7.holds Tryd.pinned (.plain (OpenSpec.upto clearBestSpec)) clearBestUptoCard

/-- THE SECOND FORM's CARD OF 'gavellaw15.ClearPart'. -/
def clearPartUptoCard : Claim7 := { stood := { row := clearPartUptoRow, standIns := [], harness := (true, "ac4a6b2d335cb2ae35c682625552c7d906713acb840f63d44a027a2729bde7d3"), looks := false }, kinds := [], alts := [], laidByText := true, laidKinds := [.data], laidTests := true, laidLooks := .later }
def ClearPartUptoCardSaid : Prop := Claim7.holds Tryd.pinned (.plain (OpenSpec.upto clearPartSpec)) clearPartUptoCard

/-- THE SECOND FORM's CARD OF 'gavellaw15.ClearAll'. -/
def clearAllUptoCard : Claim7 := { stood := { row := clearAllUptoRow, standIns := [], harness := (true, "ac4a6b2d335cb2ae35c682625552c7d906713acb840f63d44a027a2729bde7d3"), looks := false }, kinds := [], alts := [], laidByText := true, laidKinds := [.data], laidTests := true, laidLooks := .later }
def ClearAllUptoCardSaid : Prop := Claim7.holds Tryd.pinned (.plain (OpenSpec.upto clearAllSpec)) clearAllUptoCard

/-- THE SECOND FORM's CARD OF 'gavellaw15.ClearRank'. -/
def clearRankUptoCard : Claim7 := { stood := { row := clearRankUptoRow, standIns := [], harness := (true, "ac4a6b2d335cb2ae35c682625552c7d906713acb840f63d44a027a2729bde7d3"), looks := false }, kinds := [], alts := [], laidByText := true, laidKinds := [.data], laidTests := true, laidLooks := .later }
def ClearRankUptoCardSaid : Prop := Claim7.holds Tryd.pinned (.plain (OpenSpec.upto clearRankSpec)) clearRankUptoCard

/-- THE SECOND FORM's CARD OF 'gavellaw15.ClearTops'. -/
def clearTopsUptoCard : Claim7 := { stood := { row := clearTopsUptoRow, standIns := [], harness := (true, "ac4a6b2d335cb2ae35c682625552c7d906713acb840f63d44a027a2729bde7d3"), looks := false }, kinds := [], alts := [], laidByText := true, laidKinds := [.data], laidTests := true, laidLooks := .later }
def ClearTopsUptoCardSaid : Prop := Claim7.holds Tryd.pinned (.plain (OpenSpec.upto clearTopsSpec)) clearTopsUptoCard

/-- THE SECOND FORM's CARD OF 'gavellaw15.ClearMore'. -/
def clearMoreUptoCard : Claim7 := { stood := { row := clearMoreUptoRow, standIns := [], harness := (true, "ac4a6b2d335cb2ae35c682625552c7d906713acb840f63d44a027a2729bde7d3"), looks := false }, kinds := [], alts := [], laidByText := true, laidKinds := [.data], laidTests := true, laidLooks := .later }
def ClearMoreUptoCardSaid : Prop := Claim7.holds Tryd.pinned (.plain (OpenSpec.upto clearMoreSpec)) clearMoreUptoCard
end Rows
end Go.Proofs.YtmapejhacbmckaaDoor
