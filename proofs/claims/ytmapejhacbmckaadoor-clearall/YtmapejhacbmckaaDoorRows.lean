/-
  NARROWER THAN 'FOR EVERY INPUT', by the rows' own cells (each row's printed sentence says how): ClearBest: laid · ClearPart: laid · ClearAll: laid · ClearRank: laid · ClearTops: laid · ClearMore: laid.
  DERIVED. THE GIVEN ROWS OF THIS SEAT. 6 by the template 'for every input the law returns true; each argument reads behind the call as it read before'; 0 by the template 'total and deterministic' (their statements: YtmapejhacbmckaaDoorTotals.lean).
  GIVEN WITH THE SEED: the statements are not yours to turn. If you find one false, say at which input.
  Laid BY PROGRAM, IN A SANDBOX (cutbox-rows.mjs): the forced cells as the released guide's own fill.sh prints them over the translation 5ea6044b0056552d… (all of the seat's roots in one cut). By AI agents, Wed Nov 11 2026. No macro, syntax, notation, axiom, sorry.
-/
import Derived.Test.YtmapejhacbmckaaDoorChecked
import GoSem.Claim
import GoSem.ClaimJoined
import GoSem.ClaimMapViews
import Derived.JoinedTies
import Derived.KernelRfl
namespace Go.Proofs.YtmapejhacbmckaaDoor
/- THE CELL 'sum', in the pinned program and in every row, IS THE sha256 OF THE DUMP (.gsa) THAT YtmapejhacbmckaaDoorProg.lean LOADS. Nothing in Lean hashes anything: it is a label: what it is worth is what the hold of that sum in a sandbox is worth. -/
noncomputable def Tryd.pinned : Pinned := { name := "ytmapejhacbmckaadoor", sum := "5ea6044b0056552d17f44a3e37b305cd8b9ba6e0458e7c879fa1344d45816925", checked := Tryd.checked }
namespace Rows
def none {H : Type} : Left H := { results := [], args := [] }

/- WHAT THE LISTED PACKAGE-LEVEL VARIABLES READ AS WHEN THE CALL BEGINS. Each datum BY PROGRAM (the guide's laid-datum.mjs) off the statement by which the dump's own 'gosem.cut.vars' lays the variable. In a bare row this is a premise. The card (YtmapejhacbmckaaDoorCards.lean) ties it to the program's text. -/
def laid_math_bits_deBruijn32tab {H : Type} : DataW H := .agg [.lit (.int .u8 0), .lit (.int .u8 1), .lit (.int .u8 28), .lit (.int .u8 2), .lit (.int .u8 29), .lit (.int .u8 14), .lit (.int .u8 24), .lit (.int .u8 3), .lit (.int .u8 30), .lit (.int .u8 22), .lit (.int .u8 20), .lit (.int .u8 15), .lit (.int .u8 25), .lit (.int .u8 17), .lit (.int .u8 4), .lit (.int .u8 8), .lit (.int .u8 31), .lit (.int .u8 27), .lit (.int .u8 13), .lit (.int .u8 23), .lit (.int .u8 21), .lit (.int .u8 19), .lit (.int .u8 16), .lit (.int .u8 7), .lit (.int .u8 26), .lit (.int .u8 12), .lit (.int .u8 18), .lit (.int .u8 6), .lit (.int .u8 11), .lit (.int .u8 5), .lit (.int .u8 10), .lit (.int .u8 9)]

/-- 'gavellaw15.ClearBest': WHATEVER THE INPUT: true; the input reads as it did. -/
def clearBestSpec : ChangeSpec := { name := "clearBest", fn := fun _ => fun
  | [d1, d2] => { results := [.lit (.bool true)], args := [d1, d2] }
  | _ => none }
def clearBestRow : OpenClaim := { program := "ytmapejhacbmckaadoor", sum := "5ea6044b0056552d17f44a3e37b305cd8b9ba6e0458e7c879fa1344d45816925", func := "gavel/gavellaw15.ClearBest", spec := "clearBest", unfollowed := true, recurses := true, named := ["math/bits.deBruijn32tab"], plainKeys := false, apart := false, laid := [("math/bits.deBruijn32tab", laid_math_bits_deBruijn32tab)] }
def ClearBestSaid : Prop := clearBestRow.holds Tryd.pinned (OpenSpec.ofChange clearBestSpec)

/-- ITS FALSE NEIGHBOUR: 'it returns false'. Refute it at one input. -/
def clearBestWrong : ChangeSpec := { name := "clearBest", fn := fun _ => fun
  | [d1, d2] => { results := [.lit (.bool false)], args := [d1, d2] }
  | _ => none }
def ClearBestWrongFalsely : Prop := clearBestRow.holds Tryd.pinned (OpenSpec.ofChange clearBestWrong)

/-- 'gavellaw15.ClearPart': WHATEVER THE INPUT: true; the input reads as it did. -/
def clearPartSpec : ChangeSpec := { name := "clearPart", fn := fun _ => fun
  | [d1, d2, d3] => { results := [.lit (.bool true)], args := [d1, d2, d3] }
  | _ => none }
def clearPartRow : OpenClaim := { program := "ytmapejhacbmckaadoor", sum := "5ea6044b0056552d17f44a3e37b305cd8b9ba6e0458e7c879fa1344d45816925", func := "gavel/gavellaw15.ClearPart", spec := "clearPart", unfollowed := true, recurses := true, named := ["math/bits.deBruijn32tab"], plainKeys := false, apart := false, laid := [("math/bits.deBruijn32tab", laid_math_bits_deBruijn32tab)] }
def ClearPartSaid : Prop := clearPartRow.holds Tryd.pinned (OpenSpec.ofChange clearPartSpec)

/-- ITS FALSE NEIGHBOUR: 'it returns false'. Refute it at one input. -/
def clearPartWrong : ChangeSpec := { name := "clearPart", fn := fun _ => fun
  | [d1, d2, d3] => { results := [.lit (.bool false)], args := [d1, d2, d3] }
  | _ => none }
def ClearPartWrongFalsely : Prop := clearPartRow.holds Tryd.pinned (OpenSpec.ofChange clearPartWrong)

/-- 'gavellaw15.ClearAll': WHATEVER THE INPUT: true; the input reads as it did. -/
def clearAllSpec : ChangeSpec := { name := "clearAll", fn := fun _ => fun
  | [d1, d2] => { results := [.lit (.bool true)], args := [d1, d2] }
  | _ => none }
def clearAllRow : OpenClaim := { program := "ytmapejhacbmckaadoor", sum := "5ea6044b0056552d17f44a3e37b305cd8b9ba6e0458e7c879fa1344d45816925", func := "gavel/gavellaw15.ClearAll", spec := "clearAll", unfollowed := true, recurses := true, named := ["math/bits.deBruijn32tab"], plainKeys := false, apart := false, laid := [("math/bits.deBruijn32tab", laid_math_bits_deBruijn32tab)] }
def ClearAllSaid : Prop := clearAllRow.holds Tryd.pinned (OpenSpec.ofChange clearAllSpec)

/-- ITS FALSE NEIGHBOUR: 'it returns false'. Refute it at one input. -/
def clearAllWrong : ChangeSpec := { name := "clearAll", fn := fun _ => fun
  | [d1, d2] => { results := [.lit (.bool false)], args := [d1, d2] }
  | _ => none }
def ClearAllWrongFalsely : Prop := clearAllRow.holds Tryd.pinned (OpenSpec.ofChange clearAllWrong)

/-- 'gavellaw15.ClearRank': WHATEVER THE INPUT: true; the input reads as it did. -/
def clearRankSpec : ChangeSpec := { name := "clearRank", fn := fun _ => fun
  | [d1, d2, d3] => { results := [.lit (.bool true)], args := [d1, d2, d3] }
  | _ => none }
def clearRankRow : OpenClaim := { program := "ytmapejhacbmckaadoor", sum := "5ea6044b0056552d17f44a3e37b305cd8b9ba6e0458e7c879fa1344d45816925", func := "gavel/gavellaw15.ClearRank", spec := "clearRank", unfollowed := true, recurses := true, named := ["math/bits.deBruijn32tab"], plainKeys := false, apart := false, laid := [("math/bits.deBruijn32tab", laid_math_bits_deBruijn32tab)] }
def ClearRankSaid : Prop := clearRankRow.holds Tryd.pinned (OpenSpec.ofChange clearRankSpec)

/-- ITS FALSE NEIGHBOUR: 'it returns false'. Refute it at one input. -/
def clearRankWrong : ChangeSpec := { name := "clearRank", fn := fun _ => fun
  | [d1, d2, d3] => { results := [.lit (.bool false)], args := [d1, d2, d3] }
  | _ => none }
def ClearRankWrongFalsely : Prop := clearRankRow.holds Tryd.pinned (OpenSpec.ofChange clearRankWrong)

/-- 'gavellaw15.ClearTops': WHATEVER THE INPUT: true; the input reads as it did. -/
def clearTopsSpec : ChangeSpec := { name := "clearTops", fn := fun _ => fun
  | [d1, d2] => { results := [.lit (.bool true)], args := [d1, d2] }
  | _ => none }
def clearTopsRow : OpenClaim := { program := "ytmapejhacbmckaadoor", sum := "5ea6044b0056552d17f44a3e37b305cd8b9ba6e0458e7c879fa1344d45816925", func := "gavel/gavellaw15.ClearTops", spec := "clearTops", unfollowed := true, recurses := true, named := ["math/bits.deBruijn32tab"], plainKeys := false, apart := false, laid := [("math/bits.deBruijn32tab", laid_math_bits_deBruijn32tab)] }
def ClearTopsSaid : Prop := clearTopsRow.holds Tryd.pinned (OpenSpec.ofChange clearTopsSpec)

/-- ITS FALSE NEIGHBOUR: 'it returns false'. Refute it at one input. -/
def clearTopsWrong : ChangeSpec := { name := "clearTops", fn := fun _ => fun
  | [d1, d2] => { results := [.lit (.bool false)], args := [d1, d2] }
  | _ => none }
def ClearTopsWrongFalsely : Prop := clearTopsRow.holds Tryd.pinned (OpenSpec.ofChange clearTopsWrong)

/-- 'gavellaw15.ClearMore': WHATEVER THE INPUT: true; the input reads as it did. -/
def clearMoreSpec : ChangeSpec := { name := "clearMore", fn := fun _ => fun
  | [d1, d2, d3] => { results := [.lit (.bool true)], args := [d1, d2, d3] }
  | _ => none }
def clearMoreRow : OpenClaim := { program := "ytmapejhacbmckaadoor", sum := "5ea6044b0056552d17f44a3e37b305cd8b9ba6e0458e7c879fa1344d45816925", func := "gavel/gavellaw15.ClearMore", spec := "clearMore", unfollowed := true, recurses := true, named := ["math/bits.deBruijn32tab"], plainKeys := false, apart := false, laid := [("math/bits.deBruijn32tab", laid_math_bits_deBruijn32tab)] }
def ClearMoreSaid : Prop := clearMoreRow.holds Tryd.pinned (OpenSpec.ofChange clearMoreSpec)

/-- ITS FALSE NEIGHBOUR: 'it returns false'. Refute it at one input. -/
def clearMoreWrong : ChangeSpec := { name := "clearMore", fn := fun _ => fun
  | [d1, d2, d3] => { results := [.lit (.bool false)], args := [d1, d2, d3] }
  | _ => none }
def ClearMoreWrongFalsely : Prop := clearMoreRow.holds Tryd.pinned (OpenSpec.ofChange clearMoreWrong)

/- THE SECOND FORM. 'bulk': how many values and letters a reading holds, each counted each time it is reached (what is shared counts as often as it is met; a slice's spare places count too). A statement '..UptoSaid' is the law's where the arguments, and the package variables that the reading takes, are together of bulk at most 1048576: NARROWER than '..Said'. Prove '..Said' where nothing that the law and all that it calls make is longer than what came in: it says more and counts as full. Else prove '..UptoSaid'. A law counts once. -/
mutual
def uptoBulk {H : Type} : DataW H → Nat
  | .lit (.string bytes) => bytes.length + 1
  | .lit _ => 1
  | .nil => 1
  | .ptr d => uptoBulk d + 1
  | .slice elems spare => uptoBulkAll elems + uptoBulkAll spare + 1
  | .agg parts => uptoBulkAll parts + 1
  | .iface _ d => uptoBulk d + 1
  | .map entries => uptoBulkEntries entries + 1
  | .held _ => 1
def uptoBulkAll {H : Type} : List (DataW H) → Nat
  | [] => 0
  | d :: r => uptoBulk d + uptoBulkAll r
def uptoBulkEntries {H : Type} : List (Lit × DataW H) → Nat
  | [] => 0
  | x :: r => uptoBulkEntry x + uptoBulkEntries r
def uptoBulkEntry {H : Type} : Lit × DataW H → Nat
  | (.string bytes, d) => bytes.length + uptoBulk d + 1
  | (_, d) => uptoBulk d + 1
 end
def uptoSmall : (H : Type) → List (DataW H) → Bool := fun _ ds => decide (uptoBulkAll ds ≤ 1048576)
def OpenSpec.upto (s : _root_.Go.ChangeSpec) : _root_.Go.OpenSpec := { _root_.Go.OpenSpec.ofChange s with cond := some uptoSmall }

/-- 'gavellaw15.ClearBest', WHERE WHAT IT READS IS OF BULK AT MOST 1048576: true; the input reads as it did. -/
def clearBestUptoRow : OpenClaim := { program := "ytmapejhacbmckaadoor", sum := "5ea6044b0056552d17f44a3e37b305cd8b9ba6e0458e7c879fa1344d45816925", func := "gavel/gavellaw15.ClearBest", spec := "clearBest", unfollowed := true, recurses := true, named := ["math/bits.deBruijn32tab"], plainKeys := false, apart := false, laid := [("math/bits.deBruijn32tab", laid_math_bits_deBruijn32tab)], narrowed := true }
def ClearBestUptoSaid : Prop := clearBestUptoRow.holds Tryd.pinned (OpenSpec.upto clearBestSpec)

/-- 'gavellaw15.ClearPart', WHERE WHAT IT READS IS OF BULK AT MOST 1048576: true; the input reads as it did. -/
def clearPartUptoRow : OpenClaim := { program := "ytmapejhacbmckaadoor", sum := "5ea6044b0056552d17f44a3e37b305cd8b9ba6e0458e7c879fa1344d45816925", func := "gavel/gavellaw15.ClearPart", spec := "clearPart", unfollowed := true, recurses := true, named := ["math/bits.deBruijn32tab"], plainKeys := false, apart := false, laid := [("math/bits.deBruijn32tab", laid_math_bits_deBruijn32tab)], narrowed := true }
def ClearPartUptoSaid : Prop := clearPartUptoRow.holds Tryd.pinned (OpenSpec.upto clearPartSpec)

/-- 'gavellaw15.ClearAll', WHERE WHAT IT READS IS OF BULK AT MOST 1048576: true; the input reads as it did. -/
def clearAllUptoRow : OpenClaim := { program := "ytmapejhacbmckaadoor", sum := "5ea6044b0056552d17f44a3e37b305cd8b9ba6e0458e7c879fa1344d45816925", func := "gavel/gavellaw15.ClearAll", spec := "clearAll", unfollowed := true, recurses := true, named := ["math/bits.deBruijn32tab"], plainKeys := false, apart := false, laid := [("math/bits.deBruijn32tab", laid_math_bits_deBruijn32tab)], narrowed := true }
def ClearAllUptoSaid : Prop := clearAllUptoRow.holds Tryd.pinned (OpenSpec.upto clearAllSpec)

/-- 'gavellaw15.ClearRank', WHERE WHAT IT READS IS OF BULK AT MOST 1048576: true; the input reads as it did. -/
def clearRankUptoRow : OpenClaim := { program := "ytmapejhacbmckaadoor", sum := "5ea6044b0056552d17f44a3e37b305cd8b9ba6e0458e7c879fa1344d45816925", func := "gavel/gavellaw15.ClearRank", spec := "clearRank", unfollowed := true, recurses := true, named := ["math/bits.deBruijn32tab"], plainKeys := false, apart := false, laid := [("math/bits.deBruijn32tab", laid_math_bits_deBruijn32tab)], narrowed := true }
def ClearRankUptoSaid : Prop := clearRankUptoRow.holds Tryd.pinned (OpenSpec.upto clearRankSpec)

/-- 'gavellaw15.ClearTops', WHERE WHAT IT READS IS OF BULK AT MOST 1048576: true; the input reads as it did. -/
def clearTopsUptoRow : OpenClaim := { program := "ytmapejhacbmckaadoor", sum := "5ea6044b0056552d17f44a3e37b305cd8b9ba6e0458e7c879fa1344d45816925", func := "gavel/gavellaw15.ClearTops", spec := "clearTops", unfollowed := true, recurses := true, named := ["math/bits.deBruijn32tab"], plainKeys := false, apart := false, laid := [("math/bits.deBruijn32tab", laid_math_bits_deBruijn32tab)], narrowed := true }
def ClearTopsUptoSaid : Prop := clearTopsUptoRow.holds Tryd.pinned (OpenSpec.upto clearTopsSpec)

/-- 'gavellaw15.ClearMore', WHERE WHAT IT READS IS OF BULK AT MOST 1048576: true; the input reads as it did. -/
def clearMoreUptoRow : OpenClaim := { program := "ytmapejhacbmckaadoor", sum := "5ea6044b0056552d17f44a3e37b305cd8b9ba6e0458e7c879fa1344d45816925", func := "gavel/gavellaw15.ClearMore", spec := "clearMore", unfollowed := true, recurses := true, named := ["math/bits.deBruijn32tab"], plainKeys := false, apart := false, laid := [("math/bits.deBruijn32tab", laid_math_bits_deBruijn32tab)], narrowed := true }
def ClearMoreUptoSaid : Prop := clearMoreUptoRow.holds Tryd.pinned (OpenSpec.upto clearMoreSpec)

end Rows
end Go.Proofs.YtmapejhacbmckaaDoor
