/- All over bids, for every loop body that keeps them. -/
import Derived.Test.YtkhenigdppjlhaaA1
import Derived.Test.YtkhenigdppjlhaaRP
namespace Go.Proofs.Ytkhenigdppjlhaa
open Go.RowKit Go.Lib Go.Shelf
attribute [local go_sem] Oper.semAt_some

theorem kept_cell {T : Nat → Prop} {X Y : World} (h : KeptC T X Y) {p : Addr} {v : Value} (ht : ¬ T p.block) (hc : X.cell? p = some v) : Y.cell? p = some v := by
  have hg : p.block < X.heap.size := World.block_lt_of_cell? X _ hc
  obtain ⟨o, ho⟩ : ∃ o, X.heap[p.block]? = some o := ⟨_, Array.getElem?_eq_getElem hg⟩
  have hcell : o.isCells = true := by
    cases o <;> simp [World.cell?, ho] at hc ⊢
    all_goals rfl
  rw [← hc]
  exact World.cell?_of_block ((h _ _ ht ho hcell).trans ho.symm)

theorem kept_lot {T : Nat → Prop} {X Y : World} {b : Nat} {l : Lt} (h : LotC X b l) (hk : KeptC T X Y) (ht : ¬ T b) : LotC Y b l := by
  obtain ⟨c0, c1, c2, c3, c4, c5, c6, c7, c8, c9, c10⟩ := h
  exact ⟨kept_cell hk ht c0, kept_cell hk ht c1, kept_cell hk ht c2, kept_cell hk ht c3, kept_cell hk ht c4, kept_cell hk ht c5, kept_cell hk ht c6, kept_cell hk ht c7, kept_cell hk ht c8, kept_cell hk ht c9, kept_cell hk ht c10⟩
theorem kept_bids {T : Nat → Prop} {X Y : World} {ao : Option Addr} {L : List Bd} (h : BidsC X ao L) (hk : KeptC T X Y) (ht : ∀ ad, ao = some ad → ¬ T ad.block) : BidsC Y ao L := by
  intro i hi
  obtain ⟨g, o, rfl, h1, h2, h3, h4⟩ := h i hi
  have hs := ht _ rfl
  exact ⟨g, o, rfl, kept_cell hk hs h1, kept_cell hk hs h2, kept_cell hk hs h3, kept_cell hk hs h4⟩

/-- A rise that is a block of its own. -/
def RB (w : World) (b : Nat) (r : Rs) : Prop := w.heap[b]? = some (.cells #[.int .i64 r.leader, .int .i64 r.limit, .int .i64 r.price, .int .i64 r.closes] 27 (0, 0))

theorem RB.cells {w : World} {b : Nat} {r : Rs} (h : RB w b r) : RiseC w b r := ⟨blk_cells h rfl, blk_cells h rfl, blk_cells h rfl, blk_cells h rfl⟩
theorem RB.new (w : World) (r : Rs) : RB (w.alloc (.cells #[.int .i64 r.leader, .int .i64 r.limit, .int .i64 r.price, .int .i64 r.closes] 27)) w.heap.size r := heap_new w _
theorem RB.frm {S : Nat → Prop} {w w' : World} {b : Nat} {r : Rs} (h : RB w b r) (hf : Frm S w w') (hS : ¬ S b) : RB w' b r := by
  unfold RB at *
  rw [hf.block b (blk_lt h) hS]
  exact h
theorem RB.kept {T : Nat → Prop} {w w' : World} {b : Nat} {r : Rs} (h : RB w b r) (hk : KeptC T w w') (hT : ¬ T b) : RB w' b r := hk _ _ hT h rfl
theorem RB.set {w : World} {b : Nat} {r : Rs} (h : RB w b r) (q : Rs) : RB ((((w.setCell ⟨b, 0, none⟩ (.int .i64 q.leader)).setCell ⟨b, 1, none⟩ (.int .i64 q.limit)).setCell ⟨b, 2, none⟩ (.int .i64 q.price)).setCell ⟨b, 3, none⟩ (.int .i64 q.closes)) b q :=
  heap_set _ (heap_set _ (heap_set _ (heap_set _ h)))

def encE (x : Rs × Int) : Array Value := #[riseV x.1, .int .i64 x.2]

end Go.Proofs.Ytkhenigdppjlhaa
