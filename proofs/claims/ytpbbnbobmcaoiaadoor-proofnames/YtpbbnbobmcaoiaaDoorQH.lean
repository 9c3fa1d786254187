/- ProofNames: what its calls answer, reckoned. -/
import Derived.Test.YtpbbnbobmcaoiaaDoorQE
namespace Go.Proofs.YtpbbnbobmcaoiaaDoor
open Go.RowKit

def bgB : Ins := List.replicate 32 [(1023, 1099511627776), (1, 1099511627776)]
def bgP : List Int := List.replicate 10 1099511627776
def bdR (i : Nat) : List Int := ([[-1, 4], [5, 1099511627777], [5], [5, 4, 0]] : List (List Int)).getD i []
theorem nm_1 : pckZ 10 bgB [⟨0, 1023, 35184372088832, bgP⟩] = (35184372088832, 0, 0) := by decide +kernel
theorem nm_2 : pckZ 10 bgB [⟨0, 1023, 35184372088833, bgP⟩] = (0, 0, 260) := by decide +kernel
theorem nm_3 : pckZ 10 bgB [] = (0, 0, 260) := by decide +kernel
theorem nm_4 : ∀ i : Fin 4, pckZ 2 smB [⟨0, 3, 35184372088832, bdR i⟩] = (0, 0, 260) := by decide +kernel
theorem nm_5 : ∀ i : Fin 4, pbdZ 2 smB 0 3 (bdR i) = (0, 2) := by decide +kernel
end Go.Proofs.YtpbbnbobmcaoiaaDoor
