/-
  DERIVED. GIVEN WITH THE SEED: THE CARDS: each row of YtpbbnbobmcaoiaaDoorRows.lean that lists a variable, with what it lists TIED to the program's text (the seventh form; the later family's looks); each row that meets fmt, with fmt's text TOLD by the authors' own Lean function (tested against real Go, not proved from fmt's source: count such statements apart). THE CARD IS WHAT COUNTS. Prove the row's statement (the work); the ties are given (YtpbbnbobmcaoiaaDoorTie.lean); close each card by the builder's one call (the guide's Derived/Test/ToyasCard.lean, 'card_holds'). Laid BY PROGRAM, IN A SANDBOX (cutbox-door.mjs). By AI agents, Wed Nov 11 2026. No macro, syntax, notation, axiom, sorry.
-/
import Derived.Test.YtpbbnbobmcaoiaaDoorRows
import GoSem.ClaimSeven
namespace Go.Proofs.YtpbbnbobmcaoiaaDoor
namespace Rows

/-- THE TIED CARD OF 'gavellaw16.ProofChecks'. -/
def proofChecksCard : Claim7 := { stood := { row := proofChecksRow, standIns := [], harness := (true, "7d6d1fffb97eb582f957ee9a5ef73059f9f87e41c6726a1e587b2fa8692f839d"), looks := false }, kinds := [], alts := [], laidByText := true, laidKinds := [.data], laidTests := true, laidLooks := .later }
def ProofChecksCardSaid : Prop := Claim7.holds Tryd.pinned (.plain (OpenSpec.ofChange proofChecksSpec)) proofChecksCard

/-- THE TIED CARD OF 'gavellaw16.ProofBests'. -/
def proofBestsCard : Claim7 := { stood := { row := proofBestsRow, standIns := [], harness := (true, "7d6d1fffb97eb582f957ee9a5ef73059f9f87e41c6726a1e587b2fa8692f839d"), looks := false }, kinds := [], alts := [], laidByText := true, laidKinds := [.data], laidTests := true, laidLooks := .later }
def ProofBestsCardSaid : Prop := Claim7.holds Tryd.pinned (.plain (OpenSpec.ofChange proofBestsSpec)) proofBestsCard

/-- THE TIED CARD OF 'gavellaw16.ProofSound'. -/
def proofSoundCard : Claim7 := { stood := { row := proofSoundRow, standIns := [], harness := (true, "7d6d1fffb97eb582f957ee9a5ef73059f9f87e41c6726a1e587b2fa8692f839d"), looks := false }, kinds := [], alts := [], laidByText := true, laidKinds := [.data], laidTests := true, laidLooks := .later }
def ProofSoundCardSaid : Prop := Claim7.holds Tryd.pinned (.plain (OpenSpec.ofChange proofSoundSpec)) proofSoundCard

/-- THE TIED CARD OF 'gavellaw16.ProofNames'. -/
def proofNamesCard : Claim7 := { stood := { row := proofNamesRow, standIns := [], harness := (true, "7d6d1fffb97eb582f957ee9a5ef73059f9f87e41c6726a1e587b2fa8692f839d"), looks := false }, kinds := [], alts := [], laidByText := true, laidKinds := [.data], laidTests := true, laidLooks := .later }
def ProofNamesCardSaid : Prop := Claim7.holds Tryd.pinned (.plain (OpenSpec.ofChange proofNamesSpec)) proofNamesCard

/-- THE SECOND FORM's CARD OF 'gavellaw16.ProofChecks'. -/
def proofChecksUptoCard : Claim7 := { stood := { row := proofChecksUptoRow, standIns := [], harness := (true, "7d6d1fffb97eb582f957ee9a5ef73059f9f87e41c6726a1e587b2fa8692f839d"), looks := false }, kinds := [], alts := [], laidByText := true, laidKinds := [.data], laidTests := true, laidLooks := .later }
def ProofChecksUptoCardSaid : Prop := Claim7.holds Tryd.pinned (.plain (OpenSpec.upto proofChecksSpec)) proofChecksUptoCard

/-- THE SECOND FORM's CARD OF 'gavellaw16.ProofBests'. -/
def proofBestsUptoCard : Claim7 := { stood := { row := proofBestsUptoRow, standIns := [], harness := (true, "7d6d1fffb97eb582f957ee9a5ef73059f9f87e41c6726a1e587b2fa8692f839d"), looks := false }, kinds := [], alts := [], laidByText := true, laidKinds := [.data], laidTests := true, laidLooks := .later }
def ProofBestsUptoCardSaid : Prop := Claim7.holds Tryd.pinned (.plain (OpenSpec.upto proofBestsSpec)) proofBestsUptoCard

/-- THE SECOND FORM's CARD OF 'gavellaw16.ProofSound'. -/
def proofSoundUptoCard : Claim7 := { stood := { row := proofSoundUptoRow, standIns := [], harness := (true, "7d6d1fffb97eb582f957ee9a5ef73059f9f87e41c6726a1e587b2fa8692f839d"), looks := false }, kinds := [], alts := [], laidByText := true, laidKinds := [.data], laidTests := true, laidLooks := .later }
def ProofSoundUptoCardSaid : Prop := Claim7.holds Tryd.pinned (.plain (OpenSpec.upto proofSoundSpec)) proofSoundUptoCard

/-- THE SECOND FORM's CARD OF 'gavellaw16.ProofNames'. -/
def proofNamesUptoCard : Claim7 := { stood := { row := proofNamesUptoRow, standIns := [], harness := (true, "7d6d1fffb97eb582f957ee9a5ef73059f9f87e41c6726a1e587b2fa8692f839d"), looks := false }, kinds := [], alts := [], laidByText := true, laidKinds := [.data], laidTests := true, laidLooks := .later }
def ProofNamesUptoCardSaid : Prop := Claim7.holds Tryd.pinned (.plain (OpenSpec.upto proofNamesSpec)) proofNamesUptoCard
end Rows
end Go.Proofs.YtpbbnbobmcaoiaaDoor
