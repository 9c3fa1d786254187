/- TicksAgree walked. -/
import Derived.Test.YtbaibikpdaphoaaA1
namespace Go.Proofs.Ytbaibikpdaphoaa
open Go.RowKit Go.Lib Go.Maps

/-- The ticks of the list that came in. -/
def TickC (w : World) (ao : Option Addr) (N : Nat) (T : Nat → Int) : Prop := ∀ i, i < N → ∃ g o : Nat, ao = some ⟨g, o, none⟩ ∧ w.cell? ⟨g, o + 2 * i, none⟩ = some (.int .i64 (T i))

theorem TickC.old {w w' : World} {ao : Option Addr} {N : Nat} {T : Nat → Int} (h : TickC w ao N T) (ho : Old w w') : TickC w' ao N T := fun i hi => by
  obtain ⟨g, o, h1, h2⟩ := h i hi
  exact ⟨g, o, h1, ho.cell h2⟩

/-- What is told, place by place. -/
structure ToldF (N : Nat) (T : Nat → Int) (last : Int) (X : List Due) : Prop where
  at_ : ∀ k, k < X.length → ∃ i, i < N ∧ at' X k = (T i, (i : Int)) ∧ T i ≤ last
  up : ∀ j, j + 1 < X.length → dlt (at' X j) (at' X (j + 1))

theorem toldF_of {ok : Int → Bool} {N : Nat} {T : Nat → Int} {last : Int} : ToldF N T last (due last (upR ok T N)) := by
  refine ⟨fun k hk => ?_, fun j hj => ?_⟩
  · obtain ⟨h1, h2⟩ := mem_due (at_mem hk)
    obtain ⟨i, hi, e, _⟩ := mem_upR.1 h1
    rw [e] at h2
    exact ⟨i, hi, e, h2⟩
  · have hs : Srt (due last (upR ok T N)) := (upR_srt ok T N).sublist (List.takeWhile_sublist _)
    have := (List.pairwise_iff_getElem.1 hs) j (j + 1) (by omega) hj (by omega)
    rw [at_eq (by omega), at_eq hj]
    exact this

/-- Behind all that is told: the last loop. -/
structure Fin (w w7 : World) (a : Nat) (N : Nat) (T : Nat → Int) (last : Int) (ao xo bo : Option Addr) (X R : List Due) : Prop where
  old : Old w w7
  list : TickC w7 ao N T
  x : DueC w7 xo X
  b : DueC w7 bo X
  told : ToldF N T last X
  next : ∃ F, TkS w7 a F last R
  gt : ∀ y ∈ R, last < y.1

theorem Fin.drewN {w w7 : World} {a N : Nat} {T : Nat → Int} {last : Int} {ao xo bo : Option Addr} {X R : List Due} (h : Fin w w7 a N T last ao xo bo X R) (m : Nat) : Fin w (w7.drewN m) a N T last ao xo bo X R := by
  have ho := (Old.refl w7).drewN m
  obtain ⟨F, hF⟩ := h.next
  exact ⟨h.old.trans ho, h.list.old ho, h.x.old ho, h.b.old ho, h.told, ⟨F, hF.old ho⟩, h.gt⟩
end Go.Proofs.Ytbaibikpdaphoaa
