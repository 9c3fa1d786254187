/- The end of the play: all tables in two lists. -/
import Derived.Test.YtjkgijfddgppjaaN43
namespace Go.Proofs.Ytjkgijfddgppjaa
open Go.RowKit Go.Lib Go.Maps

/-- So many of the two are put to those put aside. -/
def PY (w0 w : World) (most : Int) (wb i : Nat) : Prop := ∃ τ t r R vo vw olds, PS w0 w wb τ t r most R R vo vw (olds.map Prod.fst ++ (List.range i).map t) (olds.map Prod.snd ++ (List.range i).map r) olds 400 ∧ olds.length ≤ 10

theorem PX.py {w0 w : World} {most : Int} {wb N : Nat} (h : PX w0 w most wb N) (hN : N ≤ 400) : PY w0 w most wb 0 := by
  obtain ⟨τ, t, r, R, vo, vw, olds, h1, h2⟩ := h
  exact ⟨τ, t, r, R, vo, vw, olds, by simpa using h1.up hN, h2⟩

/-- The calendars to be asked, one by one. -/
structure PZ (w : World) (wb m : Nat) (po pw : List Nat) (ao ao' : Option Addr) (cap cap' : Nat) : Prop where
  lo : po.length = m
  lw : pw.length = m
  c4 : w.cell? ⟨wb, 4, none⟩ = some (.slice ao m cap)
  c5 : w.cell? ⟨wb, 5, none⟩ = some (.slice ao' m cap')
  ro : ∀ i (hi : i < po.length), ∃ g, ao = some ⟨g, 0, none⟩ ∧ w.cell? ⟨g, i, none⟩ = some (.pointer (some ⟨po[i], 0, none⟩))
  rw : ∀ i (hi : i < pw.length), ∃ g, ao' = some ⟨g, 0, none⟩ ∧ w.cell? ⟨g, i, none⟩ = some (.pointer (some ⟨pw[i], 0, none⟩))
  each : ∀ i (hi : i < po.length) (hi' : i < pw.length), ∃ most L F Z, TN w po[i] F most L ∧ DN w pw[i] Z most L ∧ L.length ≤ 1000

theorem PY.pz {w0 w : World} {most : Int} {wb : Nat} (h : PY w0 w most wb 2) : ∃ m po pw ao ao' cap cap', m ≤ 12 ∧ Old w0 w ∧ PZ w wb m po pw ao ao' cap cap' := by
  obtain ⟨τ, t, r, R, vo, vw, olds, h1, h2⟩ := h
  have hr2 : List.range 2 = [0, 1] := rfl
  rw [hr2] at h1
  simp only [List.map_cons, List.map_nil] at h1
  obtain ⟨ao, cap, rfl, hro⟩ := owns_ptr h1.rowo
  obtain ⟨ao', cap', rfl, hrw⟩ := owns_ptr h1.roww
  have l1 : (olds.map Prod.fst ++ [t 0, t 1]).length = olds.length + 2 := by simp
  have l2 : (olds.map Prod.snd ++ [r 0, r 1]).length = olds.length + 2 := by simp
  refine ⟨olds.length + 2, _, _, ao, ao', cap, cap', by omega, h1.old, ⟨l1, l2, by rw [← l1]; exact h1.cells.2.1, by rw [← l2]; exact h1.cells.2.2.1, hro, hrw, fun i hi hi' => ?_⟩⟩
  by_cases hlt : i < olds.length
  · obtain ⟨L, a1, a2, _, a4⟩ := h1.each olds[i] (List.getElem_mem hlt)
    refine ⟨most, L, (fun b => τ b = 8), (fun b => τ b = 8), ?_, ?_, a4⟩
    · rw [List.getElem_append_left (by simpa using hlt), List.getElem_map]; exact a1
    · rw [List.getElem_append_left (by simpa using hlt), List.getElem_map]; exact a2
  · rw [l1] at hi
    have hk : i - olds.length < 2 := by omega
    have e1 : (olds.map Prod.fst ++ [t 0, t 1])[i]'(by rw [l1]; exact hi) = t (i - olds.length) := by
      rw [List.getElem_append_right (by simp; omega)]
      simp only [List.length_map]
      rcases Nat.lt_or_ge (i - olds.length) 1 with h3 | h3
      · have : i - olds.length = 0 := by omega
        simp [this]
      · have : i - olds.length = 1 := by omega
        simp [this]
    have e2 : (olds.map Prod.snd ++ [r 0, r 1])[i]'(by rw [l2]; exact hi) = r (i - olds.length) := by
      rw [List.getElem_append_right (by simp; omega)]
      simp only [List.length_map]
      rcases Nat.lt_or_ge (i - olds.length) 1 with h3 | h3
      · have : i - olds.length = 0 := by omega
        simp [this]
      · have : i - olds.length = 1 := by omega
        simp [this]
    refine ⟨most, R (i - olds.length), (fun b => τ b = 1 + (i - olds.length)), (fun b => τ b = 8), by rw [e1]; exact h1.cal _ hk, by rw [e2]; exact h1.doc _ hk, by have := h1.lenR _ hk; omega⟩

theorem PZ.old {w w' : World} {wb m : Nat} {po pw : List Nat} {ao ao' : Option Addr} {cap cap' : Nat} (h : PZ w wb m po pw ao ao' cap cap') (ho : Old w w') : PZ w' wb m po pw ao ao' cap cap' :=
  ⟨h.lo, h.lw, ho.cell h.c4, ho.cell h.c5, fun i hi => by obtain ⟨g, e, c⟩ := h.ro i hi; exact ⟨g, e, ho.cell c⟩, fun i hi => by obtain ⟨g, e, c⟩ := h.rw i hi; exact ⟨g, e, ho.cell c⟩, fun i hi hi' => by
    obtain ⟨now, L, F, Z, a, b, c⟩ := h.each i hi hi'
    exact ⟨now, L, F, Z, a.kept ho (fun _ _ h => h), b.old ho, c⟩⟩

/-- The steps of a play, in memory. -/
def StepC (w : World) (so : Option Addr) (S : List (Int × Int × List UInt8 × Int)) : Prop := ∀ i (hi : i < S.length), ∃ g o, so = some ⟨g, o, none⟩ ∧ w.cell? ⟨g, o + 4 * i, none⟩ = some (.int .i64 S[i].1) ∧ w.cell? ⟨g, o + 4 * i + 1, none⟩ = some (.int .i64 S[i].2.1) ∧ w.cell? ⟨g, o + 4 * i + 2, none⟩ = some (.string ⟨(S[i].2.2.1).toArray⟩) ∧ w.cell? ⟨g, o + 4 * i + 3, none⟩ = some (.int .i64 S[i].2.2.2)
end Go.Proofs.Ytjkgijfddgppjaa
