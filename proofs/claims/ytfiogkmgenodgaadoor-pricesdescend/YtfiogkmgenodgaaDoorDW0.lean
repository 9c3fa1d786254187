/- An instance that was given while its offers are written over; the way down for the statement. -/
import Derived.Test.YtfiogkmgenodgaaDoorGO
import Derived.Test.YtfiogkmgenodgaaDoorJ3
import Derived.Test.YtfiogkmgenodgaaDoorV3
import Derived.Test.YtfiogkmgenodgaaDoorBoundsW
namespace Go.Proofs.YtfiogkmgenodgaaDoor
open Go.RowKit

/-- The blocks of offers that were there, from lo on. -/
def OB (lo : Nat) (Wg : World) (k : Nat) : Prop := lo ≤ k ∧ ∃ cur, Wg.heap[k]? = some (.cells cur 29 (0, 0))

/-- Where the offers given are written over. -/
structure YD (lo : Nat) (Wg W0 wr : World) : Prop where
  fr : Frm (OB lo Wg) W0 wr
  sh : ∀ (k : Nat) (cur : Array Value), Wg.heap[k]? = some (.cells cur 29 (0, 0)) → ∃ cur' : Array Value, wr.heap[k]? = some (.cells cur' 29 (0, 0)) ∧ cur'.size = cur.size

theorem YD.zero {lo : Nat} {Wg W0 : World} (o : Old Wg W0) : YD lo Wg W0 W0 := ⟨Frm.refl _ _, fun k cur h => ⟨cur, (o.block k (blk_lt h) (fun h => h)).trans h, rfl⟩⟩

theorem YD.set {lo b i : Nat} {u : Value} {Wg W0 wr : World} (h : YD lo Wg W0 wr) (hb : OB lo Wg b) : YD lo Wg W0 (wr.setCell ⟨b, i, none⟩ u) := by
  refine ⟨Frm.trans h.fr (frm_set _ _ _ _) (fun k _ e => by subst e; exact hb), fun k cur hk => ?_⟩
  obtain ⟨cur', h1, h2⟩ := h.sh k cur hk
  by_cases e : k = b
  · subst e
    exact ⟨_, heap_set u h1, by simp [h2]⟩
  · exact ⟨cur', ((frm_set wr b i u).block k (blk_lt h1) e).trans h1, h2⟩

theorem YD.cell {lo b i : Nat} {v : Value} {Wg W0 wr : World} (h : YD lo Wg W0 wr) (hb : OB lo Wg b) (hc : Wg.cell? ⟨b, i, none⟩ = some v) : (∃ u, wr.cell? ⟨b, i, none⟩ = some u) ∧ wr.frozen? ⟨b, i, none⟩ = false := by
  obtain ⟨-, cur, hk⟩ := hb
  obtain ⟨cur', h1, h2⟩ := h.sh b cur hk
  have hi : i < cur.size := by
    rw [World.cell?, hk] at hc
    simp at hc
    by_cases e : i < cur.size
    · exact e
    · simp [e] at hc
  exact ⟨⟨cur'[i]'(by omega), blk_cells h1 (by simp [h2, hi])⟩, blk_fz h1 i⟩

/-- What is known of a row, while it is written over. -/
theorem YD.at {lo n c : Nat} {yo : Option Addr} {B : Ins} {Wg W0 wr : World} (h : YD lo Wg W0 wr) (o : Old Wg W0) (hg : GivI lo Wg (.slice yo n c) B) {i : Nat} (hi : i < B.length) :
    ∃ g b cp, yo = some ⟨g, 0, none⟩ ∧ wr.cell? ⟨g, i, none⟩ = some (.slice (some ⟨b, 0, none⟩) (B.getD i []).length cp) ∧ OB lo Wg b ∧ ∀ k, k < (B.getD i []).length → (∃ v, Wg.cell? ⟨b, k * 2, none⟩ = some v) ∧ ∃ v, Wg.cell? ⟨b, k * 2 + 1, none⟩ = some v := by
  obtain ⟨V, hown, hrows⟩ := hg
  have hVl := own_len hown
  rcases hown.2 with ⟨e1, e⟩ | ⟨g, cap, cur, e1, h3, h4, h5, h6, h7, h8⟩
  · omega
  · obtain ⟨b, c2, hv, hc2, hR⟩ := hrows i hi
    simp only [Value.slice.injEq] at e1
    obtain ⟨rfl, rfl, rfl⟩ := e1
    refine ⟨g, b, c2, rfl, ?_, ⟨hR.lo, hR.ty⟩, fun k hk => ?_⟩
    · have h9 : (cur.toList.take (B.length * 1))[i]? = V[i]? := by rw [h8]
      rw [List.getElem?_take_of_lt (by omega), List.getElem?_eq_getElem (show i < V.length by omega)] at h9
      have e2 : V[i]'(by omega) = V.getD i nilS := by rw [List.getD_eq_getElem?_getD, List.getElem?_eq_getElem (show i < V.length by omega)]; rfl
      rw [e2, hv] at h9
      have h10 : Wg.cell? ⟨g, i, none⟩ = some (.slice (some ⟨b, 0, none⟩) (B.getD i []).length c2) := blk_cells h4 (by simpa using h9)
      refine frm_cell h.fr (o.cell h10) ?_
      rintro ⟨-, cur2, hc2⟩
      exact typ_ne h4 hc2 (by decide) rfl
    · have := hR.own.cell k (Nat.lt_of_lt_of_le hk (by rw [List.length_append]; exact Nat.le_add_right _ _))
      exact ⟨⟨_, this.1⟩, ⟨_, this.2⟩⟩

theorem YD.old {lo : Nat} {w Wg W0 wr : World} (h : YD lo Wg W0 wr) (o : Old w W0) (hl : w.heap.size ≤ lo) : Old w wr := Frm.trans o h.fr (fun i hi e => by have := e.1; omega)

theorem GivI.lo {lo lo' : Nat} {w : World} {v : Value} {B : Ins} (h : GivI lo w v B) (hl : lo' ≤ lo) : GivI lo' w v B := by
  obtain ⟨V, hown, hrows⟩ := h
  refine ⟨V, ⟨hown.1, ?_⟩, fun i hi => (hrows i hi).low hl⟩
  rcases hown.2 with h2 | ⟨g, cap, cur, rfl, h3, h4⟩
  · exact Or.inl h2
  · exact Or.inr ⟨g, cap, cur, rfl, by omega, h4⟩

theorem NewI.ins {lo : Nat} {w : World} {v : Value} {B : Ins} (h : NewI lo w v B) (hb : ∀ l ∈ B, l.length ≤ 9223372036854775807 ∧ ∀ x ∈ l, x.1 < 4294967296) : ∃ ao c, v = .slice ao B.length c ∧ InsC w ao B ∧ B.length ≤ c := by
  rcases h with ⟨rfl, rfl⟩ | ⟨g, V, rfl, h2, h3, h4, h5, h6⟩
  · exact ⟨none, 0, rfl, fun i (hi : i < 0) => absurd hi (Nat.not_lt_zero i), Nat.le_refl _⟩
  · refine ⟨_, _, rfl, fun i hi => ?_, Nat.le_refl _⟩
    obtain ⟨ao, c, e, hO, -⟩ := (h5 i hi).off
    have hi2 : i < V.length := by omega
    have e2 : V[i] = .slice ao (B.getD i []).length c := by
      rw [← e, List.getD_eq_getElem?_getD, List.getElem?_eq_getElem hi2]
      rfl
    rw [getD_get hi] at e2 hO
    exact ⟨g, 0, ao, c, rfl, by rw [Nat.zero_add]; exact blk_cells h3 (by simp [hi2, e2]), hO, (hb _ (List.getElem_mem hi)).1, (hb _ (List.getElem_mem hi)).2⟩

theorem TryC.frm {S : Nat → Prop} {w Y : World} {ao : Option Addr} {M : List Tr} (h : TryC w ao M) (hf : Frm S w Y) (hS : ∀ g o, ao = some ⟨g, o, none⟩ → ¬ S g) : TryC Y ao M := fun i hi => by
  obtain ⟨g, o, h1, h2, h3⟩ := h i hi
  exact ⟨g, o, h1, frm_cell hf h2 (hS g o h1), frm_cell hf h3 (hS g o h1)⟩

theorem try_form {w : World} {lo : Nat} {v : Value} {M : List Tr} (h : w.ownsRow lo 96 2 v M.length (flatT M)) : ∃ ao c, v = .slice ao M.length c ∧ TryC w ao M ∧ (∀ g o, ao = some ⟨g, o, none⟩ → lo ≤ g ∧ g < w.heap.size) := by
  rcases h.2 with ⟨rfl, e⟩ | ⟨g, cap, cur, rfl, h3, h4, h5, h6, h7, h8⟩
  · exact ⟨none, 0, by rw [e], fun i hi => by omega, fun g o e => by cases e⟩
  · refine ⟨some ⟨g, 0, none⟩, cap, rfl, fun i hi => ?_, fun g' o' e => ?_⟩
    · have hg := flatT_get M i hi
      have hc : ∀ j, j < M.length * 2 → (cur.toList)[j]? = (flatT M)[j]? := fun j hj => by rw [← h8, List.getElem?_take_of_lt hj]
      refine ⟨g, 0, rfl, ?_, ?_⟩
      · rw [Nat.zero_add]
        exact blk_cells h4 (by rw [← Array.getElem?_toList, hc _ (by omega)]; exact hg.1)
      · rw [Nat.zero_add]
        exact blk_cells h4 (by rw [← Array.getElem?_toList, hc _ (by omega)]; exact hg.2)
    · simp only [Option.some.injEq, Addr.mk.injEq, and_true] at e
      obtain ⟨rfl, rfl⟩ := e
      exact ⟨h3, blk_lt h4⟩
end Go.Proofs.YtfiogkmgenodgaaDoor
