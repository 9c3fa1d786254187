/- Two goods, two buyers: what comes of it, reckoned. -/
import Derived.Test.YtfiogkmgenodgaaDoorP10
import Derived.Test.YtfiogkmgenodgaaDoorP4
namespace Go.Proofs.YtfiogkmgenodgaaDoor
open Go.RowKit

def T2 : Ins := [[(1, 6), (3, 9)], [(2, 5)]]
theorem ins_k : insZ 2 T2 = 0 := by decide +kernel
theorem bnd_k : bndZ 2 T2 [5, 4] = (11, 0) := by decide +kernel
theorem sup_k : supZ 2 T2 [0, 0] [5, 4] = (true, 0) := by decide +kernel
set_option maxRecDepth 100000 in
theorem end_k : (endS 2 T2).2.1 = 11 := by decide +kernel
end Go.Proofs.YtfiogkmgenodgaaDoor
