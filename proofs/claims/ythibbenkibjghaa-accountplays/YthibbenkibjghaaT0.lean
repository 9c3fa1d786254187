/- Steps in memory. -/
import Derived.Test.YthibbenkibjghaaA4
namespace Go.Proofs.Ythibbenkibjghaa
open Go.RowKit

/-- A step of the script. -/
structure Stp where
  kind : Int
  who : Int
  dest : Int
  lot : Int
  coins : Int
instance : Inhabited Stp := ⟨⟨0, 0, 0, 0, 0⟩⟩
/-- Steps in memory. -/
def StpC (w : World) (ao : Option Addr) (S : List Stp) : Prop := ∀ i (h : i < S.length), ∃ g o, ao = some ⟨g, o, none⟩ ∧ w.cell? ⟨g, o + i * 5, none⟩ = some (.int .i64 S[i].kind) ∧ w.cell? ⟨g, o + i * 5 + 1, none⟩ = some (.int .i64 S[i].who) ∧ w.cell? ⟨g, o + i * 5 + 2, none⟩ = some (.int .i64 S[i].dest) ∧ w.cell? ⟨g, o + i * 5 + 3, none⟩ = some (.int .i64 S[i].lot) ∧ w.cell? ⟨g, o + i * 5 + 4, none⟩ = some (.int .i64 S[i].coins)
theorem StpC.old {w w' : World} {ao : Option Addr} {S : List Stp} (h : StpC w ao S) (f : Old w w') : StpC w' ao S := fun i hi => by
  obtain ⟨g, o, e, h1, h2, h3, h4, h5⟩ := h i hi
  exact ⟨g, o, e, f.cell h1, f.cell h2, f.cell h3, f.cell h4, f.cell h5⟩
end Go.Proofs.Ythibbenkibjghaa
