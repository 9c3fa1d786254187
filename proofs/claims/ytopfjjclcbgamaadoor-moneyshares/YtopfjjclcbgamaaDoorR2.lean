/- The document's shares. -/
import Derived.Test.YtopfjjclcbgamaaDoorR1
import Derived.Test.YtopfjjclcbgamaaDoorS2
import Derived.Test.YtopfjjclcbgamaaDoorL1
namespace Go.Proofs.YtopfjjclcbgamaaDoor
open Go.RowKit Go.Lib

/-- A slice value that owns the numbers L, at base or above. -/
def OwnL (w : World) (base : Nat) (v : Value) (L : List Int) : Prop := w.ownsRow base 2 1 v L.length (L.map (Value.int .i64))

theorem OwnL.form {w : World} {base : Nat} {v : Value} {L : List Int} (h : OwnL w base v L) (hn : 0 < L.length) : ∃ g cap, v = .slice (some ⟨g, 0, none⟩) L.length cap ∧ base ≤ g ∧ g < w.heap.size := World.ownsRow.form h hn

theorem OwnL.kept {w w' : World} {base : Nat} {v : Value} {L : List Int} {S : Nat → Prop} (h : OwnL w base v L) (hf : Frm S w w') (hS : ∀ g, v.ownBlock = some g → ¬ S g) : OwnL w' base v L := by
  obtain ⟨h1, h2⟩ := h
  refine ⟨h1, ?_⟩
  rcases h2 with h2 | ⟨g, cap, cur, hv, hb, hg, rest⟩
  · exact Or.inl h2
  · refine Or.inr ⟨g, cap, cur, hv, hb, ?_, rest⟩
    rw [hf.block g (Array.getElem?_eq_some_iff.1 hg).1 (hS g (by rw [hv]; rfl))]
    exact hg

theorem OwnL.cell {w : World} {base g n cap : Nat} {L : List Int} (h : OwnL w base (.slice (some ⟨g, 0, none⟩) n cap) L) {i : Nat} (hi : i < L.length) : w.cell? ⟨g, i, none⟩ = some (.int .i64 L[i]) ∧ w.frozen? ⟨g, i, none⟩ = false := by
  obtain ⟨h1, h2⟩ := h
  rcases h2 with ⟨h2, _⟩ | ⟨g', cap', cur, hv, hb, hg, hcap, hmax, hsz, hcur⟩
  · cases h2
  · injection hv with h4 h5 h6
    simp only [Option.some.injEq, Addr.mk.injEq] at h4
    obtain ⟨rfl, _, _⟩ := h4
    constructor
    · have : cur[i]? = (L.map (Value.int .i64))[i]? := by
        rw [← hcur, Nat.mul_one, List.getElem?_take, if_pos hi, Array.getElem?_toList]
      simp [World.cell?, hg, this, hi]
    · simp [World.frozen?, hg]

theorem OwnL.set {w : World} {base g n cap : Nat} {L : List Int} (h : OwnL w base (.slice (some ⟨g, 0, none⟩) n cap) L) (hn : L.length = n) (i : Nat) (x : Int) : OwnL (w.setCell ⟨g, i, none⟩ (.int .i64 x)) base (.slice (some ⟨g, 0, none⟩) n cap) (L.set i x) := by
  subst hn
  have := (World.ownsRow.stored h i (.int .i64 x)).1
  unfold OwnL
  rw [List.length_set, List.map_set]
  exact this

theorem OwnL.nums {w : World} {base g n cap : Nat} {L : List Int} (h : OwnL w base (.slice (some ⟨g, 0, none⟩) n cap) L) : NumsC .i64 w (some ⟨g, 0, none⟩) L := by
  intro i hi
  exact ⟨g, 0, rfl, by rw [Nat.zero_add]; exact (h.cell hi).1⟩

theorem OwnL.nil (w : World) (base : Nat) : OwnL w base (.slice none 0 0) [] := ⟨rfl, Or.inl ⟨rfl, rfl⟩⟩

theorem OwnL.lt {w : World} {base : Nat} {v : Value} {L : List Int} (h : OwnL w base v L) : ∀ g, v.ownBlock = some g → base ≤ g ∧ g < w.heap.size := fun g hg => World.ownsRow.lt h g hg
end Go.Proofs.YtopfjjclcbgamaaDoor
