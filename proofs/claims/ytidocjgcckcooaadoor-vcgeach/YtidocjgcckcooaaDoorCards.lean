/-
  DERIVED. GIVEN WITH THE SEED: THE CARDS: each row of YtidocjgcckcooaaDoorRows.lean that lists a variable, with what it lists TIED to the program's text (the seventh form; the later family's looks); each row that meets fmt, with fmt's text TOLD by the authors' own Lean function (tested against real Go, not proved from fmt's source: count such statements apart). THE CARD IS WHAT COUNTS. Prove the row's statement (the work); the ties are given (YtidocjgcckcooaaDoorTie.lean); close each card by the builder's one call (the guide's Derived/Test/ToyasCard.lean, 'card_holds'). Laid BY PROGRAM, IN A SANDBOX (cutbox-door.mjs). By AI agents, Wed Nov 11 2026. No macro, syntax, notation, axiom, sorry.
-/
import Derived.Test.YtidocjgcckcooaaDoorRows
import GoSem.ClaimSeven
namespace Go.Proofs.YtidocjgcckcooaaDoor
namespace Rows

/-- THE TIED CARD OF 'gavellaw17.VcgCosts'. -/
def vcgCostsCard : Claim7 := { stood := { row := vcgCostsRow, standIns := [], harness := (true, "884d449c71024506bf0bfa954a23079b6097c32c8b59ae6c80dd3aec141feda1"), looks := false }, kinds := [], alts := [], laidByText := true, laidKinds := [.data], laidTests := true, laidLooks := .later }
def VcgCostsCardSaid : Prop := Claim7.holds Tryd.pinned (.plain (OpenSpec.ofChange vcgCostsSpec)) vcgCostsCard

/-- THE TIED CARD OF 'gavellaw17.VcgAsks'. -/
def vcgAsksCard : Claim7 := { stood := { row := vcgAsksRow, standIns := [], harness := (true, "884d449c71024506bf0bfa954a23079b6097c32c8b59ae6c80dd3aec141feda1"), looks := false }, kinds := [], alts := [], laidByText := true, laidKinds := [.data], laidTests := true, laidLooks := .later }
def VcgAsksCardSaid : Prop := Claim7.holds Tryd.pinned (.plain (OpenSpec.ofChange vcgAsksSpec)) vcgAsksCard

/-- THE TIED CARD OF 'gavellaw17.VcgEach'. -/
def vcgEachCard : Claim7 := { stood := { row := vcgEachRow, standIns := [], harness := (true, "884d449c71024506bf0bfa954a23079b6097c32c8b59ae6c80dd3aec141feda1"), looks := false }, kinds := [], alts := [], laidByText := true, laidKinds := [.data], laidTests := true, laidLooks := .later }
def VcgEachCardSaid : Prop := Claim7.holds Tryd.pinned (.plain (OpenSpec.ofChange vcgEachSpec)) vcgEachCard

/-- THE TIED CARD OF 'gavellaw16.ProofChecks'. -/
def proofChecksCard : Claim7 := { stood := { row := proofChecksRow, standIns := [], harness := (true, "884d449c71024506bf0bfa954a23079b6097c32c8b59ae6c80dd3aec141feda1"), looks := false }, kinds := [], alts := [], laidByText := true, laidKinds := [.data], laidTests := true, laidLooks := .later }
def ProofChecksCardSaid : Prop := Claim7.holds Tryd.pinned (.plain (OpenSpec.ofChange proofChecksSpec)) proofChecksCard

/-- THE TIED CARD OF 'gavellaw16.ProofBests'. -/
def proofBestsCard : Claim7 := { stood := { row := proofBestsRow, standIns := [], harness := (true, "884d449c71024506bf0bfa954a23079b6097c32c8b59ae6c80dd3aec141feda1"), looks := false }, kinds := [], alts := [], laidByText := true, laidKinds := [.data], laidTests := true, laidLooks := .later }
def ProofBestsCardSaid : Prop := Claim7.holds Tryd.pinned (.plain (OpenSpec.ofChange proofBestsSpec)) proofBestsCard

/-- THE SECOND FORM's CARD OF 'gavellaw17.VcgCosts'. -/
def vcgCostsUptoCard : Claim7 := { stood := { row := vcgCostsUptoRow, standIns := [], harness := (true, "884d449c71024506bf0bfa954a23079b6097c32c8b59ae6c80dd3aec141feda1"), looks := false }, kinds := [], alts := [], laidByText := true, laidKinds := [.data], laidTests := true, laidLooks := .later }
def VcgCostsUptoCardSaid : Prop := Claim7.holds Tryd.pinned (.plain (OpenSpec.upto vcgCostsSpec)) vcgCostsUptoCard

/-- THE SECOND FORM's CARD OF 'gavellaw17.VcgAsks'. -/
def vcgAsksUptoCard : Claim7 := { stood := { row := vcgAsksUptoRow, standIns := [], harness := (true, "884d449c71024506bf0bfa954a23079b6097c32c8b59ae6c80dd3aec141feda1"), looks := false }, kinds := [], alts := [], laidByText := true, laidKinds := [.data], laidTests := true, laidLooks := .later }
def VcgAsksUptoCardSaid : Prop := Claim7.holds Tryd.pinned (.plain (OpenSpec.upto vcgAsksSpec)) vcgAsksUptoCard

/-- THE SECOND FORM's CARD OF 'gavellaw17.VcgEach'. -/
def vcgEachUptoCard : Claim7 := { stood := { row := vcgEachUptoRow, standIns := [], harness := (true, "884d449c71024506bf0bfa954a23079b6097c32c8b59ae6c80dd3aec141feda1"), looks := false }, kinds := [], alts := [], laidByText := true, laidKinds := [.data], laidTests := true, laidLooks := .later }
def VcgEachUptoCardSaid : Prop := Claim7.holds Tryd.pinned (.plain (OpenSpec.upto vcgEachSpec)) vcgEachUptoCard

/-- THE SECOND FORM's CARD OF 'gavellaw16.ProofChecks'. -/
def proofChecksUptoCard : Claim7 := { stood := { row := proofChecksUptoRow, standIns := [], harness := (true, "884d449c71024506bf0bfa954a23079b6097c32c8b59ae6c80dd3aec141feda1"), looks := false }, kinds := [], alts := [], laidByText := true, laidKinds := [.data], laidTests := true, laidLooks := .later }
def ProofChecksUptoCardSaid : Prop := Claim7.holds Tryd.pinned (.plain (OpenSpec.upto proofChecksSpec)) proofChecksUptoCard

/-- THE SECOND FORM's CARD OF 'gavellaw16.ProofBests'. -/
def proofBestsUptoCard : Claim7 := { stood := { row := proofBestsUptoRow, standIns := [], harness := (true, "884d449c71024506bf0bfa954a23079b6097c32c8b59ae6c80dd3aec141feda1"), looks := false }, kinds := [], alts := [], laidByText := true, laidKinds := [.data], laidTests := true, laidLooks := .later }
def ProofBestsUptoCardSaid : Prop := Claim7.holds Tryd.pinned (.plain (OpenSpec.upto proofBestsSpec)) proofBestsUptoCard
end Rows
end Go.Proofs.YtidocjgcckcooaaDoor
