/- Rows of offers: copies, and what is appended. -/
import Derived.Test.YtnambpbhkehijaaDoorH2
import Derived.Deep.AppendLies
import Derived.Laws.AppendOwnNone
namespace Go.Proofs.YtnambpbhkehijaaDoor
open Go.RowKit

/-- The cells of a row of offers. -/
def flatO : List Off → List Value
  | [] => []
  | x :: M => .int .u32 (x.1 : Int) :: .int .i64 x.2 :: flatO M
theorem flatO_length : ∀ M : List Off, (flatO M).length = M.length * 2
  | [] => rfl
  | d :: M => by simp [flatO, flatO_length M]; omega
theorem flatO_append : ∀ (M : List Off) (N : List Off), flatO (M ++ N) = flatO M ++ flatO N
  | [], N => rfl
  | d :: M, N => by simp [flatO, flatO_append M N]
theorem flatO_get : ∀ (M : List Off) (i : Nat) (h : i < M.length), (flatO M)[i * 2]? = some (.int .u32 (M[i].1 : Int)) ∧ (flatO M)[i * 2 + 1]? = some (.int .i64 M[i].2)
  | [], i, h => by simp at h
  | d :: M, 0, _ => by simp [flatO]
  | d :: M, i + 1, h => by
    have := flatO_get M i (by simpa using h)
    have e : (i + 1) * 2 = i * 2 + 2 := by omega
    rw [e]
    simpa [flatO] using this
theorem flatO_one : ∀ (L : List Off), ∀ u ∈ flatO L, u.oneCell' = true
  | [], u, h => by simp [flatO] at h
  | d :: L, u, h => by
    simp only [flatO, List.mem_cons] at h
    rcases h with rfl | rfl | h
    · rfl
    · rfl
    · exact flatO_one L u h

theorem parts_o : ∃ i, Tryd.prog.info? 58 = some i ∧ i.zero = some (.agg #[.int .u32 0, .int .i64 0]) ∧ i.size = 2 ∧ i.bytes = 16 := by
  obtain ⟨i, hi, h2⟩ := Option.map_eq_some_iff.1 info_o
  simp only [Prod.mk.injEq] at h2
  exact ⟨i, hi, h2.1, h2.2.2, h2.2.1⟩

theorem off_cells {w : World} {ad : Addr} {L : List Off} (h : OffC w (some ad) L) (j : Nat) (u : Value) (hu : (flatO L)[j]? = some u) : w.cell? (ad.add j) = some u := by
  have hj : j < (flatO L).length := (List.getElem?_eq_some_iff.1 hu).1
  rw [flatO_length] at hj
  obtain ⟨g, o, e, c1, c2⟩ := h (j / 2) (by omega)
  obtain ⟨f1, f2⟩ := flatO_get L (j / 2) (by omega)
  simp only [Option.some.injEq] at e
  subst e
  rw [Addr.add_lit]
  rcases Nat.mod_two_eq_zero_or_one j with e | e
  · have e2 : j = j / 2 * 2 := by omega
    rw [← e2] at c1 f1
    rw [c1, ← f1, hu]
  · have e2 : j = j / 2 * 2 + 1 := by omega
    rw [← e2] at f2
    rw [show o + j / 2 * 2 + 1 = o + j by omega] at c2
    rw [c2, ← f2, hu]

/-- Offers in memory behind a row that one owns. -/
theorem wpAppO {ops : Array Oper} {rest : List Oper} {o : Oper} {a : Act} {Q : Exit → Act → World → Prop} {w : World} (hgd : o.guard = none) (s x : Operand) (ho : o.op = .call { callee := .builtin .append, args := #[s, x], argTypes := #[22, 22] })
    (B : Nat) (v : Value) (xo : Option Addr) (c2 : Nat) (L1 L2 : List Off) (hs : a.eval s = v) (hx : a.eval x = .slice xo L2.length c2) (hown : w.ownsRow B 58 2 v L1.length (flatO L1)) (hO : OffC w xo L2) (hn : xo = none → c2 = 0) (hl : L1.length + L2.length ≤ 1000000) (hB : B ≤ w.heap.size)
    (h : ∀ v' w', w'.ownsRow B 58 2 v' (L1 ++ L2).length (flatO (L1 ++ L2)) → w.grownBy w' v.ownBlock → wpList Tryd.prog ops Q rest (a.put o.dst v') w') : wpList Tryd.prog ops Q (o :: rest) a w := by
  obtain ⟨i0, hi0, hz0, hz1, hz2⟩ := parts_o
  cases xo with
  | none =>
    have hM : L2 = [] := by
      apply List.eq_nil_of_length_eq_zero
      apply Nat.eq_zero_of_not_pos
      intro hp
      obtain ⟨g, o, e, _⟩ := hO 0 hp
      cases e
    subst hM
    rw [hn rfl] at hx
    refine wpList_append_own_none hgd s x 22 ho B 58 i0 2 Tryd.underlying22 hi0 v L1.length (flatO L1) hs hown hx ?_
    refine h v w (by simpa using hown) ⟨rfl, rfl, rfl, Nat.le_refl _, fun _ _ _ => rfl⟩
  | some ad =>
    exact wpList_append_own _ hgd s x 22 ho B 58 i0 _ 2 16 Tryd.underlying22 hi0 hz0 hz1 hz2 rfl (by omega) v L1.length (flatO L1) hs hown ad L2.length c2 (flatO L2) hx (flatO_length L2) (off_cells hO) (flatO_one L2) (by unfold maxLen; omega) (by omega) hB (fun v' w' h8 h9 _ => h v' w' (by rw [List.length_append, flatO_append]; exact h8) h9)

/-- Offers in new memory. -/
def NewO (B : Nat) (w : World) (v : Value) (L : List Off) : Prop := (v = .slice none 0 0 ∧ L = []) ∨ ∃ b cap, v = .slice (some ⟨b, 0, none⟩) L.length cap ∧ B ≤ b ∧ L.length ≤ cap ∧ OwnO w b L

theorem owns_new {w : World} {B : Nat} {v : Value} {L : List Off} (h : w.ownsRow B 58 2 v L.length (flatO L)) : NewO B w v L := by
  rcases h.2 with ⟨rfl, h0⟩ | ⟨g, cap, cur, rfl, h3, h4, h5, h6, h7, h8⟩
  · exact Or.inl ⟨rfl, List.eq_nil_of_length_eq_zero h0⟩
  · refine Or.inr ⟨g, cap, rfl, h3, by omega, fun i hi => ?_, fun j => blk_fz h4 j, blk_lt h4⟩
    obtain ⟨f1, f2⟩ := flatO_get L i hi
    have g1 : (cur.toList.take (L.length * 2))[i * 2]? = (flatO L)[i * 2]? := by rw [h8]
    have g2 : (cur.toList.take (L.length * 2))[i * 2 + 1]? = (flatO L)[i * 2 + 1]? := by rw [h8]
    rw [List.getElem?_take_of_lt (by omega), f1] at g1
    rw [List.getElem?_take_of_lt (by omega), f2] at g2
    exact ⟨blk_cells h4 (by simpa using g1), blk_cells h4 (by simpa using g2)⟩

theorem NewO.off {B : Nat} {w : World} {v : Value} {L : List Off} (h : NewO B w v L) : ∃ ao cap, v = .slice ao L.length cap ∧ OffC w ao L ∧ (ao = none → cap = 0) := by
  rcases h with ⟨rfl, rfl⟩ | ⟨b, cap, rfl, _, _, ow⟩
  · exact ⟨none, 0, rfl, fun i hi => by simp at hi, fun _ => rfl⟩
  · exact ⟨_, _, rfl, ow.off, fun h => by cases h⟩

theorem NewO.old {B : Nat} {w w' : World} {v : Value} {L : List Off} (h : NewO B w v L) (o : Old w w') : NewO B w' v L := by
  rcases h with h | ⟨b, cap, h1, h2, h3, ow⟩
  · exact Or.inl h
  · exact Or.inr ⟨b, cap, h1, h2, h3, ow.old o⟩

set_option maxRecDepth 100000 in
set_option maxHeartbeats 2000000 in
theorem copied_any (ao : Option Addr) (cap : Nat) (L : List Off) (w : World) (h : OffC w ao L) (hn : ao = none → cap = 0) (hl : L.length ≤ 1000000) :
    Calls Tryd.prog 28 #[.slice ao L.length cap] w fun e w' => ∃ v, e = .returned v ∧ NewO w.heap.size w' v L ∧ Old w w' := by
  go_enter Tryd.func28, Tryd.ntmps28
  go_wp2_with (at_builtin; refine wpAppO (by rfl) _ _ (by rfl) w.heap.size (.slice none 0 0) ao cap [] L (by rfl) (by rfl) ⟨rfl, Or.inl ⟨rfl, rfl⟩⟩ h hn (by simp; omega) (Nat.le_refl _) ?_)
  intro v w' ow gr
  have o : Old w w' := ⟨gr.os, gr.tape, gr.output, gr.size, fun q hq _ => gr.block q hq (by simp [Value.ownBlock])⟩
  have kn := hid (owns_new ow)
  have ko := hid o
  clear ow gr o
  go_wp2_with fail
  go_ret
  exact ⟨v, rfl, by simpa using kn.out, ko.out⟩
end Go.Proofs.YtnambpbhkehijaaDoor
