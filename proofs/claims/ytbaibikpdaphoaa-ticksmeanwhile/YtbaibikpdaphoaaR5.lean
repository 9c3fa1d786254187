/- The document's calendar: made, and set. -/
import Derived.Test.YtbaibikpdaphoaaR4
namespace Go.Proofs.Ytbaibikpdaphoaa
open Go.RowKit Go.Lib Go.Maps

/-- The document's calendar behind rb: its now, its list; the block of the list is of Z. -/
def Doc (w : World) (rb : Nat) (Z : Nat → Prop) (now : Int) (L : List Due) : Prop :=
  ∃ ao cap, w.heap[rb]? = some (.cells #[.int .i64 now, .slice ao L.length cap] 55 (0, 0)) ∧ DueC w ao L ∧ ((ao = none ∧ cap = 0 ∧ L = []) ∨ ∃ g o, ao = some ⟨g, o, none⟩ ∧ Z g ∧ g < w.heap.size ∧ L.length ≤ cap)

theorem Doc.kept {w w' : World} {rb : Nat} {Z S : Nat → Prop} {now : Int} {L : List Due} (h : Doc w rb Z now L) (hf : Frm S w w') (hr : ¬ S rb) (hZ : ∀ k, Z k → ¬ S k) : Doc w' rb Z now L := by
  obtain ⟨ao, cap, h1, h2, h3⟩ := h
  refine ⟨ao, cap, by rw [hf.block rb (Array.getElem?_eq_some_iff.1 h1).1 hr]; exact h1, ?_, ?_⟩
  · rcases h3 with ⟨rfl, _, rfl⟩ | ⟨g, o, rfl, hg, _⟩
    · exact fun i hi => by simp at hi
    · exact h2.frm hf (hZ g hg)
  · rcases h3 with h3 | ⟨g, o, e, hg, hl, hc⟩
    · exact Or.inl h3
    · exact Or.inr ⟨g, o, e, hg, Nat.lt_of_lt_of_le hl hf.size, hc⟩

theorem Doc.old {w w' : World} {rb : Nat} {Z : Nat → Prop} {now : Int} {L : List Due} (h : Doc w rb Z now L) (hf : Old w w') : Doc w' rb Z now L := h.kept hf (fun h => h) (fun _ _ h => h)

theorem Doc.mono {w : World} {rb : Nat} {Z Z' : Nat → Prop} {now : Int} {L : List Due} (h : Doc w rb Z now L) (hZ : ∀ k, k < w.heap.size → Z k → Z' k) : Doc w rb Z' now L := by
  obtain ⟨ao, cap, h1, h2, h3⟩ := h
  refine ⟨ao, cap, h1, h2, ?_⟩
  rcases h3 with h3 | ⟨g, o, e, hg, hl, hc⟩
  · exact Or.inl h3
  · exact Or.inr ⟨g, o, e, hZ g hl hg, hl, hc⟩

theorem Doc.lt {w : World} {rb : Nat} {Z : Nat → Prop} {now : Int} {L : List Due} (h : Doc w rb Z now L) : rb < w.heap.size := by
  obtain ⟨ao, cap, h1, _⟩ := h
  exact (Array.getElem?_eq_some_iff.1 h1).1

theorem two_cells {w : World} {rb : Nat} {x y : Value} {t : TypeId} (h : w.heap[rb]? = some (.cells #[x, y] t (0, 0))) : w.cell? ⟨rb, 0, none⟩ = some x ∧ w.cell? ⟨rb, 1, none⟩ = some y := by
  constructor <;> simp [World.cell?, h]

set_option maxRecDepth 100000 in
set_option maxHeartbeats 1000000 in
theorem refnew_bad (now : Int) (w : World) (hb : tickB now = false) : Calls Try.prog 10 #[.int .i64 now] w fun e w' => e = .returned (.tuple #[.pointer none, .int .i64 2]) ∧ w' = w := by
  have kT := hid (fun w => refIs_any now w)
  rw [hb] at kT
  go_enter Try.func10, Try.ntmps10
  go_wp2_with fail
  refine (kT.out _).mono ?_
  rintro e w2 ⟨rfl, e2⟩
  rw [e2]
  go_wp2
  go_ret2
  exact ⟨rfl, rfl⟩

set_option maxRecDepth 100000 in
set_option maxHeartbeats 1000000 in
theorem refnew_good (now : Int) (w : World) (hb : tickB now = true) : Calls Try.prog 10 #[.int .i64 now] w fun e w' => ∃ rb, e = .returned (.tuple #[.pointer (some ⟨rb, 0, none⟩), .int .i64 0]) ∧ w.heap.size ≤ rb ∧ Doc w' rb (fun _ => False) now [] ∧ Old w w' := by
  have kT := hid (fun w => refIs_any now w)
  rw [hb] at kT
  go_enter Try.func10, Try.ntmps10
  go_wp2_with fail
  refine (kT.out _).mono ?_
  rintro e w2 ⟨rfl, e2⟩
  rw [e2]
  go_wp2
  go_ret2
  exact ⟨_, rfl, Nat.le_refl _, ⟨none, 0, heap_new _ _, fun i hi => by simp at hi, Or.inl ⟨rfl, rfl, rfl⟩⟩, (Old.refl w).alloc _⟩

set_option maxRecDepth 100000 in
set_option maxHeartbeats 4000000 in
theorem refset_bad (rb : Nat) (Z : Nat → Prop) (now n t z : Int) (L : List Due) (w : World) (h : Doc w rb Z now L) (hz : refE now (t, n) = z) (hz0 : z ≠ 0) :
    Calls Try.prog 30 #[.pointer (some ⟨rb, 0, none⟩), .int .i64 n, .int .i64 t] w fun e w' => e = .returned (.int .i64 z) ∧ w' = w := by
  obtain ⟨ao, cap, h1, h2, h3⟩ := h
  obtain ⟨c0, c1⟩ := two_cells h1
  clear h1 h2 h3
  have kT := hid (fun w => refIs_any t w)
  unfold refE at hz
  simp only at hz
  by_cases hn : n < 0
  · rw [if_neg (by omega)] at hz
    subst hz
    go_enter Try.func30, Try.ntmps30
    go_wp2_with fail
    go_ret
    exact ⟨rfl, rfl⟩
  · cases hb : tickB t with
    | false =>
      rw [hb] at kT
      rw [if_neg (by rw [hb]; simp)] at hz
      subst hz
      go_enter Try.func30, Try.ntmps30
      go_wp2_with fail
      refine (kT.out _).mono ?_
      rintro e w2 ⟨rfl, e2⟩
      rw [e2]
      go_wp2
      go_ret
      exact ⟨rfl, rfl⟩
    | true =>
      rw [hb] at kT
      rw [if_pos ⟨hb, by omega⟩] at hz
      by_cases hlt : t < now
      · rw [if_pos hlt] at hz
        subst hz
        go_enter Try.func30, Try.ntmps30
        go_wp2_with fail
        refine (kT.out _).mono ?_
        rintro e w2 ⟨rfl, e2⟩
        rw [e2]
        go_wp2
        go_ret
        exact ⟨rfl, rfl⟩
      · rw [if_neg hlt] at hz
        exact absurd hz.symm hz0
end Go.Proofs.Ytbaibikpdaphoaa
