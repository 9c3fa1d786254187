/- Claims: in plain words, in memory; partOf: walked. -/
import Derived.Test.YtpbbnbobmcaoiaaDoorPD
namespace Go.Proofs.YtpbbnbobmcaoiaaDoor
open Go.RowKit Go.Lib Go.Shelf

/-- A claim. -/
structure Cl where
  b : Int
  f : Nat
  m : Int
  p : List Int
deriving DecidableEq
/-- What a claim speaks of. -/
abbrev Pt := Int × Nat
def Cl.pt (c : Cl) : Pt := (c.b, c.f)
/-- Claims in memory. -/
def ClC (w : World) (ao : Option Addr) (P : List Cl) : Prop := ∀ i (h : i < P.length), ∃ g, ∃ o : Nat, ∃ vo cp, ao = some ⟨g, o, none⟩ ∧ w.cell? ⟨g, o + i * 4, none⟩ = some (.int .i64 P[i].b) ∧ w.cell? ⟨g, o + i * 4 + 1, none⟩ = some (.int .u32 (P[i].f : Int)) ∧ w.cell? ⟨g, o + i * 4 + 2, none⟩ = some (.int .i64 P[i].m) ∧ w.cell? ⟨g, o + i * 4 + 3, none⟩ = some (.slice vo P[i].p.length cp) ∧ NumsC .i64 w vo P[i].p ∧ P[i].f < 4294967296 ∧ P[i].p.length ≤ 9223372036854775807 ∧ (vo = none → cp = 0)
theorem ClC.old {w w' : World} {ao : Option Addr} {P : List Cl} (h : ClC w ao P) (o : Old w w') : ClC w' ao P := fun i hi => by
  obtain ⟨g, q, vo, cp, e, c0, c1, c2, c3, hn, hf, hl, hv⟩ := h i hi
  exact ⟨g, q, vo, cp, e, o.cell c0, o.cell c1, o.cell c2, o.cell c3, hn.old o, hf, hl, hv⟩
/-- A claim as a value. -/
def clV (c : Cl) (vo : Option Addr) (cp : Nat) : Value := .agg #[.int .i64 c.b, .int .u32 (c.f : Int), .int .i64 c.m, .slice vo c.p.length cp]

/-- Do claims rise? -/
def rsB (P : List Cl) (i : Nat) (c : Cl) : Bool := decide (0 < i) && decide (cmP ((P[i - 1]?).getD c).b ((P[i - 1]?).getD c).f c.b c.f ≥ 0)
/-- May a claim stand in a proof? -/
def mbB (gd : Int) (n : Nat) (c : Cl) : Bool := decide (0 ≤ c.b) && decide (c.b ≤ (n : Int)) && subB c.f (allZ gd).1 && decide (0 ≤ c.m) && decide (c.m ≤ 35184372088832) && (decide (c.p.length = 0) || decide ((c.p.length : Int) = gd)) && !c.p.any wrB

set_option maxRecDepth 100000 in
set_option maxHeartbeats 2000000 in
theorem partOf_any (c : Cl) (vo : Option Addr) (cp : Nat) (w : World) :
    Calls Tryd.prog 43 #[clV c vo cp] w fun e w' => e = .returned (.agg #[.int .i64 c.b, .int .u32 (c.f : Int)]) ∧ Old w w' := by
  obtain ⟨b, f, m, p⟩ := c
  unfold clV
  dsimp only
  have n5 := heap_new w (.cells #[.int .i64 b, .int .u32 (f : Int), .int .i64 m, .slice vo p.length cp] 48)
  have n5 := (Below.heap_alloc _ (.cells #[.int .i64 0, .int .u32 0] 79) _ (blk_lt n5)).trans n5
  have c0 := blk_cells (i := 0) (v := .int .i64 b) n5 rfl
  have c1 := blk_cells (i := 1) (v := .int .u32 (f : Int)) n5 rfl
  clear n5
  go_enter Tryd.func43, Tryd.ntmps43
  go_wp2_with fail
  refine bodyPost_ret (v := .agg #[.int .i64 b, .int .u32 (f : Int)]) (by simp [results, Tryd.results43, go_sem]) rfl ⟨rfl, ((Old.refl w).alloc _).alloc _⟩
end Go.Proofs.YtpbbnbobmcaoiaaDoor
