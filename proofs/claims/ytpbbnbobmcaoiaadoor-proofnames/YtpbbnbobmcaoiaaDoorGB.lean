/- Blocks, cells and rows in memory. -/
import Derived.Test.YtpbbnbobmcaoiaaDoorBase
import Derived.Test.YtpbbnbobmcaoiaaDoorProg
import Derived.Laws.Pointers
import Derived.Maps.OwnSet
import Derived.Maps.AppendAt
import Derived.RegionCalls
import Derived.BigQuiet
namespace Go.Proofs.YtpbbnbobmcaoiaaDoor
open Go.RowKit

theorem frm_cell {S : Nat → Prop} {w w' : World} (h : Frm S w w') {p : Addr} {v : Value} (hc : w.cell? p = some v) (hS : ¬ S p.block) : w'.cell? p = some v := by
  have hg := World.block_lt_of_cell? w _ hc
  rw [← hc]
  exact World.cell?_of_block (h.block _ hg hS)
theorem frm_set (w : World) (b o : Nat) (u : Value) : Frm (fun k => k = b) w (w.setCell ⟨b, o, none⟩ u) := Frm.setCell (Frm.refl (fun k => k = b) w) ⟨b, o, none⟩ (Or.inr rfl) u
theorem heap_new (w : World) (o : Obj) : (w.alloc o).heap[w.heap.size]? = some o := by simp only [World.alloc]; exact Array.getElem?_push_size ..
theorem frm_frozen {S : Nat → Prop} {w w' : World} (h : Frm S w w') {p : Addr} (hl : p.block < w.heap.size) (hc : w.frozen? p = false) (hS : ¬ S p.block) : w'.frozen? p = false := by
  rw [← hc]
  simp only [World.frozen?, h.block _ hl hS]
theorem set_oth {w : World} {b i j : Nat} {u x : Value} (h : w.cell? ⟨b, j, none⟩ = some x) (hn : i ≠ j) : (w.setCell ⟨b, i, none⟩ u).cell? ⟨b, j, none⟩ = some x :=
  (World.cell?_setCell_other w ⟨b, i, none⟩ ⟨b, j, none⟩ u (fun h => hn (congrArg Addr.off h))).trans h
theorem set_same {w : World} {b i : Nat} {u x : Value} (h : w.cell? ⟨b, i, none⟩ = some x) : (w.setCell ⟨b, i, none⟩ u).cell? ⟨b, i, none⟩ = some u := World.cell?_setCell_same w ⟨b, i, none⟩ u h
theorem set_fz {w : World} {b i : Nat} {u : Value} (h : ∀ j, w.frozen? ⟨b, j, none⟩ = false) (j : Nat) : (w.setCell ⟨b, i, none⟩ u).frozen? ⟨b, j, none⟩ = false := by simp [h j]
theorem alloc_size (w : World) (o : Obj) : (w.alloc o).heap.size = w.heap.size + 1 := by simp only [World.alloc, Array.size_push]
theorem new_cell (w : World) (arr : Array Value) (t : TypeId) (i : Nat) (v : Value) (h : arr[i]? = some v) : (w.alloc (.cells arr t)).cell? ⟨w.heap.size, i, none⟩ = some v := by
  have := heap_new w (.cells arr t)
  simp only [World.cell?, this]
  simpa using h
theorem blk_cell {w : World} {b : Nat} {v : Value} {t : TypeId} (h : w.heap[b]? = some (.cells #[v] t (0, 0))) : w.cell? ⟨b, 0, none⟩ = some v := by simp [World.cell?, h]
theorem blk_cells {w : World} {b i : Nat} {arr : Array Value} {v : Value} {t : TypeId} {f : Nat × Nat} (h : w.heap[b]? = some (.cells arr t f)) (hi : arr[i]? = some v) : w.cell? ⟨b, i, none⟩ = some v := by simp [World.cell?, h, hi]
theorem blk_fz {w : World} {b : Nat} {arr : Array Value} {t : TypeId} (h : w.heap[b]? = some (.cells arr t (0, 0))) (i : Nat) : w.frozen? ⟨b, i, none⟩ = false := by simp [World.frozen?, h]
theorem blk_lt {w : World} {b : Nat} {o : Obj} (h : w.heap[b]? = some o) : b < w.heap.size := (Array.getElem?_eq_some_iff.1 h).1
theorem heap_set {w : World} {b i : Nat} {arr : Array Value} {t : TypeId} {f : Nat × Nat} (u : Value) (h : w.heap[b]? = some (.cells arr t f)) : (w.setCell ⟨b, i, none⟩ u).heap[b]? = some (.cells (arr.setIfInBounds i u) t f) := by
  simp [World.setCell, Array.getElem?_modify, h]

theorem owns_kept {w w' : World} {B : Nat} {e : TypeId} {v : Value} {n : Nat} {xs : List Value} (h : w.ownsRow B e 1 v n xs) (hb : ∀ k, v.ownBlock = some k → w'.heap[k]? = w.heap[k]?) : w'.ownsRow B e 1 v n xs := by
  refine ⟨h.1, ?_⟩
  rcases h.2 with h2 | ⟨g, cap, cur, rfl, h3, h4, h5⟩
  · exact Or.inl h2
  · exact Or.inr ⟨g, cap, cur, rfl, h3, by rw [hb g rfl]; exact h4, h5⟩

theorem owns_block {w : World} {B : Nat} {e : TypeId} {v : Value} {n : Nat} {xs : List Value} (h : w.ownsRow B e 1 v n xs) {g : Nat} (hg : v.ownBlock = some g) : ∃ cur, w.heap[g]? = some (.cells cur e (0, 0)) := by
  rcases h.2 with h2 | ⟨g', cap, cur, rfl, h3, h4, h5⟩
  · rcases h2 with ⟨rfl, _⟩
    simp [Value.ownBlock] at hg
  · simp [Value.ownBlock] at hg
    subst hg
    exact ⟨cur, h4⟩

/-- The values of numbers. -/
def natsV (N : List Nat) : List Value := N.map (fun n : Nat => Value.int .i64 (n : Int))

theorem info3 : (Tryd.prog.info? 3).map (fun i => (i.zero, i.size, i.bytes)) = some (some (.int .i64 0), 1, 8) := by kernel_rfl

theorem nats_form {w : World} {B : Nat} {v : Value} {N : List Nat} (h : w.ownsRow B 3 1 v N.length (natsV N)) : (N = [] ∧ v = .slice none 0 0) ∨ ∃ g cap cur, v = .slice (some ⟨g, 0, none⟩) N.length cap ∧ B ≤ g ∧ w.heap[g]? = some (.cells cur 3 (0, 0)) ∧ ∀ i (h : i < N.length), w.cell? ⟨g, i, none⟩ = some (.int .i64 (N[i] : Int)) := by
  rcases h.2 with ⟨rfl, h0⟩ | ⟨g, cap, cur, rfl, h3, h4, h5, h6, h7, h8⟩
  · exact Or.inl ⟨List.eq_nil_of_length_eq_zero h0, rfl⟩
  · refine Or.inr ⟨g, cap, cur, rfl, h3, h4, fun i hi => blk_cells h4 ?_⟩
    have h9 : (cur.toList.take (N.length * 1))[i]? = (natsV N)[i]? := by rw [h8]
    rw [List.getElem?_take_of_lt (by omega)] at h9
    simpa [natsV, hi] using h9

theorem nats_slice {w : World} {B : Nat} {v : Value} {N : List Nat} (h : w.ownsRow B 3 1 v N.length (natsV N)) : ∃ ar cr, v = .slice ar N.length cr := by
  rcases nats_form h with ⟨h1, rfl⟩ | ⟨g', c', _, rfl, _⟩
  · exact ⟨none, 0, by rw [h1]; rfl⟩
  · exact ⟨_, _, rfl⟩

def nums (R : List Nat) : List Int := R.map (fun n : Nat => (n : Int))
theorem nums_len (R : List Nat) : (nums R).length = R.length := by simp [nums]

/-- A list of numbers in new memory. -/
def ListOf (w w' : World) (v : Value) (R : List Nat) : Prop := ∃ ao cap, v = .slice ao R.length cap ∧ NumsC .i64 w' ao (nums R) ∧ (∀ g o, ao = some ⟨g, o, none⟩ → w.heap.size ≤ g)

theorem NumsC.at {w : World} {ao : Option Addr} {R : List Nat} (h : NumsC .i64 w ao (nums R)) {i : Nat} (hi : i < R.length) : ∃ g o, ao = some ⟨g, o, none⟩ ∧ w.cell? ⟨g, o + i, none⟩ = some (.int .i64 (R[i] : Int)) := by
  obtain ⟨g, o, h1, h2⟩ := h i (by rw [nums_len]; exact hi)
  exact ⟨g, o, h1, by simpa [nums] using h2⟩

theorem owns_listOf {w w' : World} {v : Value} {R : List Nat} (h : w'.ownsRow w.heap.size 3 1 v R.length (natsV R)) : ListOf w w' v R := by
  rcases nats_form h with ⟨rfl, rfl⟩ | ⟨g2, c2, cur, rfl, hg2, hgb, hcs⟩
  · exact ⟨none, 0, rfl, fun i hi => by simp [nums] at hi, fun _ _ h => by cases h⟩
  · refine ⟨some ⟨g2, 0, none⟩, c2, rfl, fun i hi => ?_, fun g' o' e => ?_⟩
    · simp only [nums, List.length_map] at hi
      refine ⟨g2, 0, rfl, ?_⟩
      rw [Nat.zero_add, hcs i hi]
      simp [nums]
    · simp only [Option.some.injEq, Addr.mk.injEq, and_true] at e
      obtain ⟨rfl, rfl⟩ := e
      exact hg2
end Go.Proofs.YtpbbnbobmcaoiaaDoor
