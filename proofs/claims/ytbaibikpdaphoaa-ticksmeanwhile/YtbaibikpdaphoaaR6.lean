/- The document's calendar: a number is set. -/
import Derived.Test.YtbaibikpdaphoaaR5
namespace Go.Proofs.Ytbaibikpdaphoaa
open Go.RowKit Go.Lib Go.Maps

/-- What the document's calendar is when something in it has turned. -/
def DocP (w : World) (rb : Nat) (Z : Nat → Prop) (now : Int) (L : List Due) (w' : World) : Prop := Doc w' rb (fun k => Z k ∨ w.heap.size ≤ k) now L ∧ Frm (fun k => k = rb) w w'

theorem with_all (ao : Option Addr) (cap n : Nat) (d : Due) (L : List Due) (w : World) (ha : DueC w ao L) (hn : L.length = n) (hl : n ≤ 900000) (h : (ao = none ∧ cap = 0 ∧ L = []) ∨ (∃ g o, ao = some ⟨g, o, none⟩ ∧ n ≤ cap)) :
    Calls Try.prog 42 #[.slice ao n cap, .agg #[.int .i64 d.1, .int .i64 d.2]] w fun e w' => ∃ v, e = .returned v ∧ w'.ownsRow w.heap.size 26 2 v (insD d L).length (flatD (insD d L)) ∧ Old w w' := by
  rcases h with ⟨rfl, rfl, rfl⟩ | ⟨g, o, rfl, hc⟩
  · obtain rfl : n = 0 := hn.symm
    exact with_none d w
  · exact with_any g o cap n d L w ha hn hl hc

theorem owns_dues {w : World} {B n : Nat} {v : Value} {L : List Due} (h : w.ownsRow B 26 2 v n (flatD L)) : ∃ ao cap, v = .slice ao L.length cap ∧ DueC w ao L ∧ ((ao = none ∧ cap = 0 ∧ L = []) ∨ ∃ g, ao = some ⟨g, 0, none⟩ ∧ B ≤ g ∧ g < w.heap.size ∧ L.length ≤ cap) := by
  obtain ⟨ao, cap, rfl, rfl, h2, h3⟩ := dues_of_owns h
  refine ⟨ao, cap, rfl, h2, ?_⟩
  obtain ⟨h4, h5⟩ := h
  rcases h5 with ⟨e, h6⟩ | ⟨g, cap', arr, e, hb, hg, h7, h8, h9, h10⟩
  · simp only [Value.slice.injEq] at e
    obtain ⟨rfl, _, rfl⟩ := e
    exact Or.inl ⟨rfl, rfl, List.eq_nil_of_length_eq_zero h6⟩
  · simp only [Value.slice.injEq] at e
    obtain ⟨rfl, _, rfl⟩ := e
    exact Or.inr ⟨g, rfl, hb, (Array.getElem?_eq_some_iff.1 hg).1, by omega⟩

/-- A list is laid into the document's calendar. -/
theorem doc_lay {w4 : World} {rb m cap cap2 : Nat} {ao ao2 : Option Addr} {now : Int} {L : List Due} {Z : Nat → Prop} (h1 : w4.heap[rb]? = some (.cells #[.int .i64 now, .slice ao m cap] 55 (0, 0))) (hD : DueC w4 ao2 L)
    (hE : (ao2 = none ∧ cap2 = 0 ∧ L = []) ∨ ∃ g o, ao2 = some ⟨g, o, none⟩ ∧ Z g ∧ g ≠ rb ∧ g < w4.heap.size ∧ L.length ≤ cap2) : Doc (w4.setCell ⟨rb, 1, none⟩ (.slice ao2 L.length cap2)) rb Z now L := by
  have hf := frm_set w4 rb 1 (.slice ao2 L.length cap2)
  refine ⟨ao2, cap2, by simp [World.setCell, Array.getElem?_modify, h1], ?_, ?_⟩
  · rcases hE with ⟨rfl, _, rfl⟩ | ⟨g, o, rfl, _, hne, _⟩
    · exact fun i hi => by simp at hi
    · exact hD.frm hf hne
  · rcases hE with h | ⟨g, o, e, hz, hne, hlt, hc⟩
    · exact Or.inl h
    · exact Or.inr ⟨g, o, e, hz, Nat.lt_of_lt_of_le hlt hf.size, hc⟩

set_option maxRecDepth 100000 in
set_option maxHeartbeats 4000000 in
theorem refset_good (rb : Nat) (Z : Nat → Prop) (now n t : Int) (L : List Due) (w : World) (h : Doc w rb Z now L) (hz : refE now (t, n) = 0) (hl : L.length ≤ 900000) :
    Calls Try.prog 30 #[.pointer (some ⟨rb, 0, none⟩), .int .i64 n, .int .i64 t] w fun e w' => e = .returned (.int .i64 0) ∧ DocP w rb Z now (setR L (t, n)) w' := by
  have hlt0 := h.lt
  obtain ⟨ao, cap, h1, h2, h3⟩ := h
  obtain ⟨c0, c1⟩ := two_cells h1
  have kT := hid (fun w => refIs_any t w)
  have k1 := hid h1
  have kW := hid (without_any ao cap L.length n L w h2 rfl (by omega))
  have kl := hid hl
  have hwl : Hid ((wo n L).length ≤ L.length) := List.length_filter_le _ _
  unfold refE at hz
  simp only at hz
  have hn : ¬ n < 0 := by
    intro hn; rw [if_neg (by omega)] at hz; simp at hz
  have hb : tickB t = true := by
    cases hb : tickB t with
    | true => rfl
    | false => rw [if_neg (by rw [hb]; simp)] at hz; simp at hz
  have hnl : ¬ t < now := by
    intro hlt; rw [if_pos ⟨hb, by omega⟩, if_pos hlt] at hz; simp at hz
  rw [hb] at kT
  clear h1 h2 h3 hz hb hl
  generalize L.length = m at c1 k1 kW kl hwl
  go_enter Try.func30, Try.ntmps30
  go_wp2_with fail
  refine (kT.out _).mono ?_
  rintro e w2 ⟨rfl, e2⟩
  rw [e2]
  clear e2 w2
  go_wp2_with fail
  refine kW.out.mono ?_
  rintro e w3 ⟨v, rfl, hown, hold⟩
  obtain ⟨ao', cap', rfl, hD, h9⟩ := owns_dues hown
  have kX := hid (with_all ao' cap' _ (t, n) (wo n L) w3 hD rfl (by have := kl.out; have := hwl.out; omega) (by
    rcases h9 with h9 | ⟨g, e, _, _, hc⟩
    · exact Or.inl h9
    · exact Or.inr ⟨g, 0, e, hc⟩))
  have k3 := hid hold
  have hs3 := hold.size
  clear hown hold hD h9
  generalize (wo n L).length = m' at *
  go_wp2_with fail
  refine kX.out.mono ?_
  rintro e w4 ⟨v, rfl, hown, hold⟩
  obtain ⟨ao2, cap2, rfl, hD, h9⟩ := owns_dues hown
  have k4 := hid (k3.out.trans hold)
  have hs4 := hold.size
  have kD := hid hD
  have kE := hid h9
  have c2 := k4.out.cell c1
  have c3 := k4.out.cell c0
  have hrb : Hid (w4.heap[rb]? = w.heap[rb]?) := k4.out.block rb hlt0 (fun h => h)
  have f1 : w4.frozen? ⟨rb, 1, none⟩ = false := by
    have := hrb.out; rw [k1.out] at this; simp [World.frozen?, this]
  clear hown hold hD h9
  go_wp2_with fail
  go_ret
  refine ⟨rfl, doc_lay (hrb.out.trans k1.out) kD.out ?_, Frm.setCell (S := fun k => k = rb) (Frm.mono k4.out (fun _ _ h => h.elim)) ⟨rb, 1, none⟩ (Or.inr rfl) _⟩
  rcases kE.out with h | ⟨g, e, h1, h2, h3⟩
  · exact Or.inl h
  · exact Or.inr ⟨g, 0, e, Or.inr (by omega), by omega, h2, h3⟩
end Go.Proofs.Ytbaibikpdaphoaa
