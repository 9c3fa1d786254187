/- What a choice is worth, walked. -/
import Derived.Test.YtpbbnbobmcaoiaaDoorH1
namespace Go.Proofs.YtpbbnbobmcaoiaaDoor
open Go.RowKit

/-- What a choice for an instance is worth: the answer and the error. -/
def chZ (gd : Int) (B : Ins) (c : List Int) : Int × Int := if insZ gd B ≠ 0 then (0, insZ gd B) else (worthZ gd B c, choE gd B c)
end Go.Proofs.YtpbbnbobmcaoiaaDoor
