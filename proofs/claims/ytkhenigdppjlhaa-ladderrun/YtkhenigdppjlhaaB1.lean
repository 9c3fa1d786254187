/- LadderBest: where it stands in memory. -/
import Derived.Test.YtkhenigdppjlhaaM1
import Derived.Test.YtkhenigdppjlhaaL13
import Derived.Laws.AppendOwnNone
namespace Go.Proofs.Ytkhenigdppjlhaa
open Go.RowKit

/-- The lot at bl, the rise at br, the limits that were taken. -/
structure BX (w wr : World) (bl br : Nat) (l : Lt) (r : Rs) (tv : Value) (T : List Int) : Prop where
  old : Old w wr
  lot : LotC wr bl l
  rise : RiseC wr br r
  fz : ∀ i, wr.frozen? ⟨br, i, none⟩ = false
  own : wr.ownsRow w.heap.size 2 1 tv T.length (T.map (Value.int .i64))
  ne : ∀ g, tv.ownBlock = some g → g ≠ bl ∧ g ≠ br
  ge : w.heap.size ≤ br
  nb : bl ≠ br

theorem frm_lot {S : Nat → Prop} {w w' : World} {b : Nat} {l : Lt} (h : LotC w b l) (hf : Frm S w w') (hS : ¬ S b) : LotC w' b l := by
  obtain ⟨c0, c1, c2, c3, c4, c5, c6, c7, c8, c9, c10⟩ := h
  exact ⟨frm_cell hf c0 hS, frm_cell hf c1 hS, frm_cell hf c2 hS, frm_cell hf c3 hS, frm_cell hf c4 hS, frm_cell hf c5 hS, frm_cell hf c6 hS, frm_cell hf c7 hS, frm_cell hf c8 hS, frm_cell hf c9 hS, frm_cell hf c10 hS⟩
theorem frm_rise {S : Nat → Prop} {w w' : World} {b : Nat} {r : Rs} (h : RiseC w b r) (hf : Frm S w w') (hS : ¬ S b) : RiseC w' b r := by
  obtain ⟨c0, c1, c2, c3⟩ := h
  exact ⟨frm_cell hf c0 hS, frm_cell hf c1 hS, frm_cell hf c2 hS, frm_cell hf c3 hS⟩

theorem own_frm {S : Nat → Prop} {w w' : World} {B : Nat} {e : TypeId} {v : Value} {n : Nat} {xs : List Value} (h : w.ownsRow B e 1 v n xs) (hf : Frm S w w') (hS : ∀ g, v.ownBlock = some g → ¬ S g) : w'.ownsRow B e 1 v n xs :=
  owns_kept h (fun k hk => by
    obtain ⟨cur, hc⟩ := owns_block h hk
    exact hf.block k (blk_lt hc) (hS k hk))

theorem BX.olds {w wr w2 : World} {bl br : Nat} {l : Lt} {r : Rs} {tv : Value} {T : List Int} (h : BX w wr bl br l r tv T) (o : Old wr w2) : BX w w2 bl br l r tv T :=
  ⟨h.old.trans o, h.lot.old o, h.rise.old o, fun i => frm_frozen o (cell_lt h.rise.1) (h.fz i) (fun h => h), own_frm h.own o (fun _ _ h => h), h.ne, h.ge, h.nb⟩

theorem four_frm (w : World) (b : Nat) (x0 x1 x2 x3 : Value) : Frm (fun k => k = b) w ((((w.setCell ⟨b, 0, none⟩ x0).setCell ⟨b, 1, none⟩ x1).setCell ⟨b, 2, none⟩ x2).setCell ⟨b, 3, none⟩ x3) :=
  Frm.setCell (S := fun k => k = b) (Frm.setCell (S := fun k => k = b) (Frm.setCell (S := fun k => k = b) (Frm.setCell (S := fun k => k = b) (Frm.refl _ w) ⟨b, 0, none⟩ (Or.inr rfl) _) ⟨b, 1, none⟩ (Or.inr rfl) _) ⟨b, 2, none⟩ (Or.inr rfl) _) ⟨b, 3, none⟩ (Or.inr rfl) _

theorem BX.set {w wr : World} {bl br : Nat} {l : Lt} {r : Rs} {tv : Value} {T : List Int} (h : BX w wr bl br l r tv T) (q : Rs) : BX w ((((wr.setCell ⟨br, 0, none⟩ (.int .i64 q.leader)).setCell ⟨br, 1, none⟩ (.int .i64 q.limit)).setCell ⟨br, 2, none⟩ (.int .i64 q.price)).setCell ⟨br, 3, none⟩ (.int .i64 q.closes)) bl br l q tv T := by
  have hf := four_frm wr br (.int .i64 q.leader) (.int .i64 q.limit) (.int .i64 q.price) (.int .i64 q.closes)
  obtain ⟨c0, c1, c2, c3⟩ := h.rise
  exact ⟨h.old.set4 br h.ge _ _ _ _, frm_lot h.lot hf h.nb, rise_set c0 c1 c2 c3 q, set_fz (set_fz (set_fz (set_fz h.fz))), own_frm h.own hf (fun g hg => (h.ne g hg).2), h.ne, h.ge, h.nb⟩

theorem BX.app {w wr w' : World} {bl br : Nat} {l : Lt} {r : Rs} {tv : Value} {T : List Int} {g cap : Nat} {x : Int} (h : BX w wr bl br l r tv T) (hown : w'.ownsRow w.heap.size 2 1 (.slice (some ⟨g, 0, none⟩) (T.length + 1) cap) (T.length + 1) (T.map (Value.int .i64) ++ [.int .i64 x])) (hg : wr.grownBy w' tv.ownBlock) (hat : tv.ownBlock = some g ∨ g = wr.heap.size) : BX w w' bl br l r (.slice (some ⟨g, 0, none⟩) (T.length + 1) cap) (T ++ [x]) := by
  have hf : Frm (fun k => tv.ownBlock = some k) wr w' := Frm.grown (Frm.refl _ wr) hg (fun k hk => Or.inr hk)
  have h1 := cell_lt h.lot.1
  have h2 := cell_lt h.rise.1
  refine ⟨Frm.trans (S := fun _ => False) h.old hf (fun k hlt hk => ?_), frm_lot h.lot hf (fun e => (h.ne _ e).1 rfl), frm_rise h.rise hf (fun e => (h.ne _ e).2 rfl), fun i => frm_frozen hf h2 (h.fz i) (fun e => (h.ne _ e).2 rfl), ?_, ?_, h.ge, h.nb⟩
  · rcases h.own.2 with h5 | ⟨g', cap', cur, rfl, h3, h4, h5⟩
    · rcases h5 with ⟨rfl, _⟩
      simp [Value.ownBlock] at hk
    · simp [Value.ownBlock] at hk
      omega
  · simp only [List.length_append, List.length_cons, List.length_nil, List.map_append, List.map_cons, List.map_nil]
    exact hown
  · intro k hk
    simp [Value.ownBlock] at hk
    subst hk
    rcases hat with e | e
    · exact h.ne _ e
    · omega

theorem BX.form {w wr : World} {bl br : Nat} {l : Lt} {r : Rs} {tv : Value} {T : List Int} (h : BX w wr bl br l r tv T) : (T = [] ∧ tv = .slice none 0 0) ∨ ∃ g cap, tv = .slice (some ⟨g, 0, none⟩) T.length cap ∧ ∀ i (hi : i < T.length), wr.cell? ⟨g, i, none⟩ = some (.int .i64 T[i]) := by
  rcases h.own.2 with ⟨rfl, h0⟩ | ⟨g, cap, cur, rfl, h3, h4, h5, h6, h7, h8⟩
  · exact Or.inl ⟨List.eq_nil_of_length_eq_zero h0, rfl⟩
  · refine Or.inr ⟨g, cap, rfl, fun i hi => blk_cells h4 ?_⟩
    have h9 : (cur.toList.take (T.length * 1))[i]? = (T.map (Value.int .i64))[i]? := by rw [h8]
    rw [List.getElem?_take_of_lt (by omega)] at h9
    simpa [hi] using h9

end Go.Proofs.Ytkhenigdppjlhaa
