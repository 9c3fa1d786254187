/- How places are compared; a row of places. -/
import Derived.Test.YtccbmmbcfcppeaaN2
namespace Go.Proofs.Ytccbmmbcfcppeaa
open Go.RowKit

/-- The comparison of two places by their keys, and of the same keys by themselves. -/
def cpZ (L : Nat → Int) (x y : Nat) : Int := if L x < L y then -1 else if L x > L y then 1 else if x < y then -1 else if x > y then 1 else 0
theorem cpZ_neg (L : Nat → Int) (x y : Nat) : cpZ L x y < 0 ↔ Lt L x y := by
  unfold cpZ Lt
  split
  · omega
  · split
    · omega
    · split
      · omega
      · split <;> omega

/-- What the comparison answers, whatever was done to the block blk. -/
structure Cmp (w0 : World) (cb blk n : Nat) (L : Nat → Int) : Prop where
  call : ∀ (w : World) (x y : Nat), Frm (fun k => k = blk) w0 w → x < n → y < n →
    Calls Try.prog 45 #[.int .i64 (x : Int), .int .i64 (y : Int), .pointer (some ⟨cb, 0, none⟩)] w fun e w' => e = .returned (.int .i64 (cpZ L x y)) ∧ Old w w'

/-- A row of places. -/
def dl (n : Nat) (f : Dat) : List Int := (List.range n).map (fun i => (f i : Int))
theorem dl_len (n : Nat) (f : Dat) : (dl n f).length = n := by simp [dl]
theorem dl_at {n : Nat} {f : Dat} {i : Nat} (h : i < n) : (dl n f)[i]'(by rw [dl_len]; exact h) = (f i : Int) := by simp [dl]
theorem dl_sw {n : Nat} {f : Dat} {i j : Nat} : ((dl n f).set i (f j : Int)).set j (f i : Int) = dl n (sw f i j) := by
  apply List.ext_getElem
  · simp [dl_len]
  · intro t h1 h2
    have ht : t < n := by rw [dl_len] at h2; exact h2
    rw [dl_at ht, List.getElem_set, List.getElem_set]
    unfold sw
    by_cases e1 : j = t
    · subst e1
      rw [if_pos rfl]
      by_cases e2 : j = i
      · rw [if_pos e2, e2]
      · rw [if_neg e2, if_pos rfl]
    · rw [if_neg e1]
      by_cases e2 : i = t
      · subst e2
        rw [if_pos rfl, if_pos rfl]
      · rw [if_neg e2, if_neg (fun e => e2 e.symm), if_neg (fun e => e1 e.symm), dl_at ht]

/-- The row as it stands. -/
structure OD (w0 : World) (blk n : Nat) (f : Dat) (w : World) : Prop where
  own : Own .i64 3 w blk (dl n f)
  frm : Frm (fun k => k = blk) w0 w
theorem OD.cell {w0 w : World} {blk n : Nat} {f : Dat} (h : OD w0 blk n f w) {i : Nat} (hi : i < n) : w.cell? ⟨blk, i, none⟩ = some (.int .i64 (f i : Int)) ∧ w.frozen? ⟨blk, i, none⟩ = false := by
  obtain ⟨c, fz⟩ := h.own.cell (i := i) (by rw [dl_len]; exact hi)
  rw [dl_at hi] at c
  exact ⟨c, fz⟩
theorem OD.old {w0 w w' : World} {blk n : Nat} {f : Dat} (h : OD w0 blk n f w) (o : Old w w') : OD w0 blk n f w' := ⟨h.own.kept o (fun h => h), Frm.trans h.frm o (fun _ _ h => h.elim)⟩
theorem OD.drewN {w0 w : World} {blk n : Nat} {f : Dat} (h : OD w0 blk n f w) (q : Nat) : OD w0 blk n f (w.drewN q) := h.old ((Old.refl w).drewN q)
theorem OD.swap {w0 w : World} {blk n : Nat} {f : Dat} (h : OD w0 blk n f w) (i j : Nat) : OD w0 blk n (sw f i j) ((w.setCell ⟨blk, i, none⟩ (.int .i64 (f j : Int))).setCell ⟨blk, j, none⟩ (.int .i64 (f i : Int))) := by
  refine ⟨?_, Frm.setCell (Frm.setCell h.frm ⟨blk, i, none⟩ (Or.inr rfl) _) ⟨blk, j, none⟩ (Or.inr rfl) _⟩
  rw [← dl_sw]
  exact (h.own.set i _).set j _

/-- All places are places of wants. -/
def Pl (n : Nat) (f : Dat) : Prop := ∀ i, i < n → f i < n
theorem Pl.re {n a b : Nat} {f g : Dat} (h : Pl n f) (r : Re a b f g) (hb : b ≤ n) : Pl n g := fun i hi => by
  obtain ⟨s, h1, h2, e⟩ := (r.mono (Nat.zero_le _) hb).mem (Nat.zero_le i) hi
  rw [e]
  exact h s h2
/-- Two cells that are read. -/
def R2 (blk i j : Nat) (x y : Int) (W : World) : Prop := W.cell? ⟨blk, i, none⟩ = some (.int .i64 x) ∧ W.cell? ⟨blk, j, none⟩ = some (.int .i64 y)
theorem R2.old {blk i j : Nat} {x y : Int} {w w' : World} (h1 : w.cell? ⟨blk, i, none⟩ = some (.int .i64 x)) (h2 : w.cell? ⟨blk, j, none⟩ = some (.int .i64 y)) (o : Old w.drew w') : R2 blk i j x y w' :=
  ⟨o.cell (show w.drew.cell? _ = _ from h1), o.cell (show w.drew.cell? _ = _ from h2)⟩
end Go.Proofs.Ytccbmmbcfcppeaa
