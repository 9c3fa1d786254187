/- Dues put in order. -/
import Derived.Test.YtbaibikpdaphoaaK1
import Derived.Test.YtbaibikpdaphoaaShelf
import Derived.Shelf.SlSortCmp.WholeK
namespace Go.Proofs.Ytbaibikpdaphoaa
open Go.RowKit Go.Lib Go.Maps Go.Sort

/-- A due's cells. -/
def encD (d : Due) : List Value := [.int .i64 d.1, .int .i64 d.2]

theorem cmpD_ltOf (x y : Due) : ltOf cmpD x y = true ↔ dlt x y := by
  unfold ltOf
  rw [decide_eq_true_eq]
  exact cmpD_lt
theorem cmpD_ltOf_false (x y : Due) : ltOf cmpD x y = false ↔ ¬ dlt x y := by rw [← Bool.not_eq_true, cmpD_ltOf]

theorem cmpD_swo : SWO (ltOf cmpD) where
  irrefl x := by rw [cmpD_ltOf_false]; exact dlt_irrefl x
  trans x y z h1 h2 := by rw [cmpD_ltOf] at *; exact dlt_trans h1 h2
  ntrans x y z h1 h2 := by rw [cmpD_ltOf_false] at *; unfold dlt at *; omega

theorem holds_of_row {w : World} {blk cap : Nat} {L : List Due} (h : Row w blk cap L) : HoldsK encD 2 w blk 0 L.toArray := by
  intro j hj
  have hj2 : j < L.length * 2 := by simpa [flatK] using hj
  have hi : j / 2 < L.length := by omega
  obtain ⟨c0, c1⟩ := h.cell hi
  have hf : (flatK encD 2 L.toArray)[j]! = (encD (at' L (j / 2)))[j % 2]! := by
    rw [getElem!_pos _ j hj]
    simp only [flatK, Array.getElem_map, Array.getElem_range]
    rw [getElem!_pos L.toArray (j / 2) (by simpa using hi), at_eq hi]
    simp
  refine ⟨?_, h.frozen _⟩
  rw [hf, Nat.zero_add]
  rcases Nat.mod_two_eq_zero_or_one j with e | e
  · rw [e, show j = 2 * (j / 2) by omega]
    rw [show 2 * (j / 2) / 2 = j / 2 by omega]
    exact c0
  · rw [e, show j = 2 * (j / 2) + 1 by omega]
    rw [show (2 * (j / 2) + 1) / 2 = j / 2 by omega]
    exact c1

theorem dues_of_holds {w : World} {blk : Nat} {d : Array Due} (h : HoldsK encD 2 w blk 0 d) : DueC w (some ⟨blk, 0, none⟩) d.toList := by
  intro i hi
  have hi' : i < d.size := by simpa using hi
  have e : d[i]! = at' d.toList i := by rw [getElem!_pos d i hi', at_eq hi]; simp
  have h0 := (h.cell (i := i) (c := 0) hi' (by omega)).1
  have h1 := (h.cell (i := i) (c := 1) hi' (by omega)).1
  rw [e] at h0 h1
  refine ⟨blk, 0, rfl, ?_, ?_⟩
  · rw [show 0 + 2 * i = 0 + i * 2 + 0 by omega]; exact h0
  · rw [show 0 + 2 * i + 1 = 0 + i * 2 + 1 by omega]; exact h1
end Go.Proofs.Ytbaibikpdaphoaa
