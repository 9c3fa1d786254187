/- A row of units that grows and is written. -/
import Derived.Test.YtafaodlmohfenaaU3
import Derived.Test.YtafaodlmohfenaaL1
namespace Go.Proofs.Ytafaodlmohfenaa
open Go.RowKit

def flatU : List Un → List Value
  | [] => []
  | x :: M => .int .i64 (x.b : Int) :: .int .i64 (x.p : Int) :: .int .i64 x.c :: flatU M
theorem flatU_length : ∀ M : List Un, (flatU M).length = M.length * 3
  | [] => rfl
  | d :: M => by simp [flatU, flatU_length M]; omega
theorem flatU_append : ∀ (M : List Un) (N : List Un), flatU (M ++ N) = flatU M ++ flatU N
  | [], N => rfl
  | d :: M, N => by simp [flatU, flatU_append M N]
theorem flatU_get : ∀ (M : List Un) (i : Nat) (_ : i < M.length), (flatU M)[i * 3]? = some (.int .i64 ((hg M i).b : Int)) ∧ (flatU M)[i * 3 + 1]? = some (.int .i64 ((hg M i).p : Int)) ∧ (flatU M)[i * 3 + 2]? = some (.int .i64 (hg M i).c)
  | [], i, h => by simp at h
  | d :: M, 0, _ => by simp [flatU, hg]
  | d :: M, i + 1, h => by
    have := flatU_get M i (by simpa using h)
    have e : (i + 1) * 3 = i * 3 + 3 := by omega
    have e2 : hg (d :: M) (i + 1) = hg M i := by simp [hg]
    rw [e, e2]
    simpa [flatU] using this
theorem flatU_one : ∀ (L : List Un), ∀ u ∈ flatU L, u.oneCell' = true
  | [], u, h => by simp [flatU] at h
  | d :: L, u, h => by
    simp only [flatU, List.mem_cons] at h
    rcases h with rfl | rfl | rfl | h
    · rfl
    · rfl
    · rfl
    · exact flatU_one L u h
theorem flatU_set : ∀ (M : List Un) (i : Nat) (u : Un), flatU (M.set i u) = (((flatU M).set (i * 3) (.int .i64 (u.b : Int))).set (i * 3 + 1) (.int .i64 (u.p : Int))).set (i * 3 + 2) (.int .i64 u.c)
  | [], i, u => by simp [flatU]
  | d :: M, 0, u => by simp [flatU]
  | d :: M, i + 1, u => by
    have := flatU_set M i u
    have e : (i + 1) * 3 = i * 3 + 3 := by omega
    rw [e]
    simp [flatU, this]

theorem parts_u : ∃ i, Try.prog.info? 55 = some i ∧ i.zero = some (.agg #[.int .i64 0, .int .i64 0, .int .i64 0]) ∧ i.size = 3 ∧ i.bytes = 24 := by
  obtain ⟨i, hi, h2⟩ := Option.map_eq_some_iff.1 info_u
  simp only [Prod.mk.injEq] at h2
  exact ⟨i, hi, h2.1, h2.2.2, h2.2.1⟩

/-- Units that one owns; none yet, or in a row. -/
def RowU (B : Nat) (w : World) (v : Value) (O : List Un) : Prop := w.ownsRow B 55 3 v O.length (flatU O)
theorem RowU.old {B : Nat} {w w' : World} {v : Value} {O : List Un} (h : RowU B w v O) (o : Old w w') : RowU B w' v O := by
  refine ⟨h.1, ?_⟩
  rcases h.2 with h2 | ⟨g, cap, cur, rfl, h3, h4, h5⟩
  · exact Or.inl h2
  · exact Or.inr ⟨g, cap, cur, rfl, h3, by rw [o.block g (blk_lt h4) (fun h => h)]; exact h4, h5⟩
theorem RowU.form {B : Nat} {w : World} {v : Value} {O : List Un} (h : RowU B w v O) : (v = .slice none 0 0 ∧ O = []) ∨ ∃ b cap, v = .slice (some ⟨b, 0, none⟩) O.length cap ∧ O.length ≤ cap ∧ B ≤ b ∧ OwnU w b O := by
  rcases h.2 with ⟨rfl, h0⟩ | ⟨g, cap, cur, rfl, h3, h4, h5, h6, h7, h8⟩
  · exact Or.inl ⟨rfl, List.eq_nil_of_length_eq_zero h0⟩
  · refine Or.inr ⟨g, cap, rfl, by omega, h3, fun i hi => ?_, fun j => blk_fz h4 j, blk_lt h4⟩
    obtain ⟨f1, f2, f3⟩ := flatU_get O i hi
    have g1 : (cur.toList.take (O.length * 3))[i * 3]? = (flatU O)[i * 3]? := by rw [h8]
    have g2 : (cur.toList.take (O.length * 3))[i * 3 + 1]? = (flatU O)[i * 3 + 1]? := by rw [h8]
    have g3 : (cur.toList.take (O.length * 3))[i * 3 + 2]? = (flatU O)[i * 3 + 2]? := by rw [h8]
    rw [List.getElem?_take_of_lt (by omega), f1] at g1
    rw [List.getElem?_take_of_lt (by omega), f2] at g2
    rw [List.getElem?_take_of_lt (by omega), f3] at g3
    exact ⟨blk_cells h4 (by simpa using g1), blk_cells h4 (by simpa using g2), blk_cells h4 (by simpa using g3)⟩
theorem RowU.own {B : Nat} {w : World} {b n cap : Nat} {O : List Un} (h : RowU B w (.slice (some ⟨b, 0, none⟩) n cap) O) : OwnU w b O ∧ B ≤ b ∧ n = O.length ∧ n ≤ cap := by
  rcases h.form with ⟨e, _⟩ | ⟨b', cap', e, h2, h3, h4⟩
  · cases e
  · simp only [Value.slice.injEq, Option.some.injEq, Addr.mk.injEq, and_true] at e
    obtain ⟨rfl, rfl, rfl⟩ := e
    exact ⟨h4, h3, rfl, h2⟩
theorem RowU.set {B : Nat} {w : World} {b n cap : Nat} {O : List Un} (h : RowU B w (.slice (some ⟨b, 0, none⟩) n cap) O) (i : Nat) (u : Un) : RowU B (set3 w b i u) (.slice (some ⟨b, 0, none⟩) n cap) (O.set i u) := by
  refine ⟨by rw [flatU_length], ?_⟩
  rcases h.2 with ⟨e, _⟩ | ⟨g, cp, cur, e, h3, h4, h5, h6, h7, h8⟩
  · cases e
  · simp only [Value.slice.injEq, Option.some.injEq, Addr.mk.injEq, and_true] at e
    obtain ⟨rfl, rfl, rfl⟩ := e
    refine Or.inr ⟨b, cap, _, by rw [List.length_set], h3, heap_set _ (heap_set _ (heap_set _ h4)), by rw [List.length_set]; exact h5, h6, by simp [h7], ?_⟩
    rw [flatU_set, ← h8, List.length_set]
    simp only [Array.toList_setIfInBounds, List.take_set]

/-- A unit behind a row that one owns. -/
theorem wpAppU {ops : Array Oper} {rest : List Oper} {o : Oper} {a : Act} {Q : Exit → Act → World → Prop} {w : World} (hgd : o.guard = none) (s x : Operand) (ho : o.op = .call { callee := .builtin .append, args := #[s, x], argTypes := #[47, 47] })
    (B : Nat) (v : Value) (b c2 : Nat) (O : List Un) (u : Un) (hs : a.eval s = v) (hx : a.eval x = .slice (some ⟨b, 0, none⟩) 1 c2) (hown : RowU B w v O) (hO : OwnU w b [u]) (hl : O.length ≤ 100000) (hB : B ≤ w.heap.size)
    (h : ∀ g cap w', RowU B w' (.slice (some ⟨g, 0, none⟩) (O.length + 1) cap) (O ++ [u]) → w.grownBy w' v.ownBlock → (v.ownBlock = some g ∨ g = w.heap.size) → wpList Try.prog ops Q rest (a.put o.dst (.slice (some ⟨g, 0, none⟩) (O.length + 1) cap)) w') : wpList Try.prog ops Q (o :: rest) a w := by
  obtain ⟨i0, hi0, hz0, hz1, hz2⟩ := parts_u
  have hc : ∀ j x, (flatU [u])[j]? = some x → w.cell? ((⟨b, 0, none⟩ : Addr).add j) = some x := fun j x hu => by
    have hj : j < 3 := by have := (List.getElem?_eq_some_iff.1 hu).1; rw [flatU_length] at this; simpa using this
    obtain ⟨c1, c2, c3⟩ := hO.cell 0 (by simp)
    rw [Addr.add_lit, Nat.zero_add]
    rw [Nat.zero_mul] at c1 c2 c3
    match j, hj with
    | 0, _ => rw [c1, ← hu]; rfl
    | 1, _ => rw [show (1 : Nat) = 0 + 1 from rfl, c2, ← hu]; rfl
    | 2, _ => rw [show (2 : Nat) = 0 + 2 from rfl, c3, ← hu]; rfl
  exact wpList_append_lies _ hgd s x 47 ho B 55 i0 _ 3 24 Try.underlying47 hi0 hz0 hz1 hz2 rfl (by omega) v O.length (flatU O) hs hown ⟨b, 0, none⟩ 1 c2 (flatU [u]) hx (flatU_length [u]) hc (flatU_one [u]) (by omega) (by unfold maxLen; omega) (by omega) hB _ rfl (fun g cap w' h8 h9 h10 _ => h g cap w' (by unfold RowU; rw [List.length_append, flatU_append]; exact h8) h9 h10)
theorem rowU_frm_old {w w1 w2 : World} {v : Value} {O : List Un} (h : RowU w.heap.size w1 v O) (o : Old w w1) (hf : Frm (fun q => v.ownBlock = some q) w1 w2) : Old w w2 := by
  refine Frm.trans (S := fun _ => False) o hf (fun i hi e => ?_)
  rcases h.2 with ⟨e2, _⟩ | ⟨q, c, cur, e2, h3, _⟩
  · rw [e2] at e; simp [Value.ownBlock] at e
  · rw [e2] at e
    simp [Value.ownBlock] at e
    omega
theorem rowU_block {w : World} {B : Nat} {v : Value} {O : List Un} (h : RowU B w v O) {g : Nat} (hg : v.ownBlock = some g) : B ≤ g ∧ ∃ cur, w.heap[g]? = some (.cells cur 55 (0, 0)) := by
  rcases h.2 with h2 | ⟨g', cap, cur, rfl, h3, h4, h5⟩
  · rcases h2 with ⟨rfl, _⟩
    simp [Value.ownBlock] at hg
  · simp [Value.ownBlock] at hg
    subst hg
    exact ⟨h3, cur, h4⟩

/-- What is put in is put behind all that are not behind it: the list while it is moved. -/
structure Shf (O : List Un) (u : Un) (n : Nat) (H : List Un) : Prop where
  len : H.length = O.length + 1
  at' : ∀ t, t ≤ O.length → hg H t = if n < t then hg O (t - 1) else hg (O ++ [u]) t
theorem Shf.init (O : List Un) (u : Un) : Shf O u O.length (O ++ [u]) := ⟨by simp, fun t ht => by rw [if_neg (by omega)]⟩
theorem Shf.step {O : List Un} {u : Un} {n : Nat} {H : List Un} (h : Shf O u (n + 1) H) (hn : n + 1 ≤ O.length) : Shf O u n (H.set (n + 1) (hg H n)) := by
  refine ⟨by rw [List.length_set]; exact h.len, fun t ht => ?_⟩
  rw [hg_set]
  by_cases e : n + 1 = t
  · subst e
    rw [if_pos ⟨rfl, by rw [h.len]; omega⟩, if_pos (by omega), Nat.add_sub_cancel, h.at' n (by omega), if_neg (by omega)]
    unfold hg
    rw [List.getElem?_append_left (by omega)]
  · rw [if_neg (fun x => e x.1), h.at' t ht]
    by_cases e2 : n + 1 < t
    · rw [if_pos e2, if_pos (by omega)]
    · rw [if_neg e2, if_neg (by omega)]
theorem Shf.done {O : List Un} {u : Un} {H : List Un} (h : Shf O u (posU O u O.length) H) : H.set (posU O u O.length) u = insU O u := by
  have hp := posU_le O u O.length
  apply List.ext_getElem
  · rw [List.length_set, h.len]
    unfold insU
    simp
    omega
  · intro t h1 h2
    rw [List.length_set, h.len] at h1
    rw [← hg_eq (by rw [List.length_set, h.len]; exact h1), ← hg_eq h2, hg_set]
    unfold insU
    by_cases e : posU O u O.length = t
    · rw [if_pos ⟨e, by rw [h.len]; omega⟩, e]
      unfold hg
      rw [List.getElem?_append_right (by simp; omega)]
      simp [List.length_take, ← e]
      rw [show posU O u O.length - min (posU O u O.length) O.length = 0 by omega]
      rfl
    · rw [if_neg (fun x => e x.1), h.at' t (by omega)]
      by_cases e2 : posU O u O.length < t
      · rw [if_pos e2]
        unfold hg
        rw [List.getElem?_append_right (by simp; omega), List.length_take]
        rw [show t - min (posU O u O.length) O.length = (t - posU O u O.length - 1) + 1 by omega, List.getElem?_cons_succ, List.getElem?_drop]
        rw [show posU O u O.length + (t - posU O u O.length - 1) = t - 1 by omega]
      · rw [if_neg e2]
        unfold hg
        rw [List.getElem?_append_left (show t < (O.take (posU O u O.length)).length by rw [List.length_take]; omega), List.getElem?_take, if_pos (by omega), List.getElem?_append_left (by omega)]
end Go.Proofs.Ytafaodlmohfenaa
