/- What came in is opened; where the variables stand. -/
import Derived.Test.YtgbdnlpdicmaaaaDoorRows
import Derived.Test.YtgbdnlpdicmaaaaDoorG15
import Derived.ProofKit
import Derived.OpenShut
import Derived.LaidMore
import Derived.Stop.Joined
import Derived.Stop.LaidErr
import Derived.Lib.LaidTab
import Derived.MakeChecks
import Derived.Lay
import Derived.LaidOnce
namespace Go.Proofs.YtgbdnlpdicmaaaaDoor
open Go.ChangeShapes Go.WideShapes Go.ChangeAt Go.RowKit

theorem goods_own : ownKnob Tryd.prog.godebug = none := by kernel_rfl
theorem goods_laidOut : laidOutB Tryd.prog = true := by kernel_rfl

/-- The variables that are listed, with what they hold. -/
def laidL : List (String × DataW Unit) := Rows.goodsSetsRow.laid

/-- A start that meets the condition. -/
theorem laid_met (os : Os) (args : Array Value) : laidMetH Tryd.prog laidL ((World.laidAll Tryd.prog os laidL).forCall (fun _ _ => 0) ⟨#[], args, []⟩).memory := by
  rw [MakeChecks.laidMetH_plain _ _ _ (by kernel_rfl)]
  exact laidMet_laidAll _ (by kernel_rfl) (by kernel_rfl)

theorem star_err : "*" ++ "errors.errorString" = "*errors.errorString" := by decide
theorem row_err (u : TypeId) (h : Tryd.prog.typeName? 3 u = some "*errors.errorString") : u = 148 :=
  typeName_ptr_named (nm := "errors.errorString") (by rw [star_err]; kernel_rfl) (by kernel_rfl) (by decide) u (by rw [star_err]; exact h)

/-- What the condition gives the walks. -/
theorem tabs_of {W : World} (h0 : laidMetH Tryd.prog laidL W) : Tabs W := by
  have h : laidMet Tryd.prog laidL W := by
    rw [MakeChecks.laidMetH_plain _ _ _ (by kernel_rfl)] at h0
    exact h0
  have ht := Lib.tabIs_of_head (P := Tryd.prog) (name := "math/bits.deBruijn32tab") (k := .u8) (zs := Lib.deBruijn32tab.map (fun n : Nat => (n : Int))) (g := 0) (t := 102) (e := 5) (n := 32) (by kernel_rfl) (by kernel_rfl) Tryd.underlying102 Tryd.underlying5 (by kernel_rfl) (by kernel_rfl) h
  obtain ⟨a1, t1, hv1, _⟩ := laid_sentinel (g := 2) (tp := 148) (te := 150) h.tail.tail.tail.tail (by kernel_rfl) (by kernel_rfl) Tryd.underlying90 row_err Tryd.underlying148 Tryd.underlying150 rfl rfl Tryd.underlying9 (by kernel_rfl) (by kernel_rfl)
  obtain ⟨a2, t2, hv2, _⟩ := laid_sentinel (g := 1) (tp := 148) (te := 150) h.tail.tail.tail.tail.tail (by kernel_rfl) (by kernel_rfl) Tryd.underlying90 row_err Tryd.underlying148 Tryd.underlying150 rfl rfl Tryd.underlying9 (by kernel_rfl) (by kernel_rfl)
  have k2 : W.cell? ⟨1, 0, none⟩ = some (.iface 148 (.pointer (some a2))) := by
    simpa using World.var?_cell (g := 1) (by kernel_rfl) hv2 0
  have k1 : W.cell? ⟨2, 0, none⟩ = some (.iface 148 (.pointer (some a1))) := by
    simpa using World.var?_cell (g := 2) (by kernel_rfl) hv1 0
  refine ⟨fun j hj => ?_, ⟨_, _, k2⟩, ⟨_, _, k1⟩⟩
  have := ht.cell (g := 0) (by kernel_rfl) j (by simpa using hj)
  rw [this]
  simp [List.getD, hj]
end Go.Proofs.YtgbdnlpdicmaaaaDoor
