/- The document's Bid, whatever the bid. -/
import Derived.Test.YtkhenigdppjlhaaR5
import Derived.Test.YtkhenigdppjlhaaR6
import Derived.Test.YtkhenigdppjlhaaR7
import Derived.Test.YtkhenigdppjlhaaR7b
import Derived.Test.YtkhenigdppjlhaaR8
import Derived.Test.YtkhenigdppjlhaaR8b
import Derived.Test.YtkhenigdppjlhaaR9
import Derived.Test.YtkhenigdppjlhaaR9b
namespace Go.Proofs.Ytkhenigdppjlhaa
open Go.RowKit

theorem rbid_any (l : Lt) (r : Rs) (b : Bd) (w : World) : Calls Try.prog 12 #[lotV l, riseV r, bidV b] w fun e w' => e = .returned (.tuple #[riseV (bidR l r b), .int .i64 (bidE l r b)]) ∧ Old w w' := by
  by_cases h : lsE l r b.bidder = 2 ∨ cB b.limit = false ∨ b.free < 0 ∨ cB b.now = false
  · exact rbid_arg l r b w h
  by_cases k : b.now < l.opens ∨ r.closes ≤ b.now
  · exact rbid_time l r b w h k
  by_cases m : b.limit < lsZ l r b.bidder
  · exact rbid_low l r b w h k m
  by_cases n : heldZ r b.bidder < b.limit - b.free
  · exact rbid_budget l r b w h k m n
  have h0 : bidE l r b = 0 := (bidE_rest h k m).trans (if_neg n)
  by_cases hA : r.leader = -1
  · exact rbid_A l r b w h0 hA
  have hA' : (r.leader == -1) = false := by simpa using hA
  by_cases hB : r.leader = b.bidder
  · exact rbid_B l r b w h0 hA' hB
  have hB' : (r.leader == b.bidder) = false := by simpa using hB
  by_cases hC : r.limit < b.limit
  · by_cases hD : r.limit + l.step ≤ b.limit
    · exact rbid_C1 l r b w h0 hA' hB' hC hD
    · exact rbid_C2 l r b w h0 hA' hB' hC hD
  · by_cases hD : b.limit + l.step ≤ r.limit
    · exact rbid_D1 l r b w h0 hA' hB' hC hD
    · exact rbid_D2 l r b w h0 hA' hB' hC hD

end Go.Proofs.Ytkhenigdppjlhaa
