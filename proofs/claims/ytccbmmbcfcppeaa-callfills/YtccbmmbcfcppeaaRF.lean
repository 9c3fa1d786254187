/- A row of fills that grows and is written. -/
import Derived.Test.YtccbmmbcfcppeaaMF
import Derived.Test.YtccbmmbcfcppeaaB2
namespace Go.Proofs.Ytccbmmbcfcppeaa
open Go.RowKit

def fA (F : List Fl) (i : Nat) : Fl := (F[i]?).getD ⟨0, 0, 0⟩
theorem fA_eq {F : List Fl} {i : Nat} (h : i < F.length) : fA F i = F[i] := by unfold fA; rw [List.getElem?_eq_getElem h]; rfl
theorem fA_last {F : List Fl} (_ : F ≠ []) : fA F (F.length - 1) = lastF F := by
  unfold fA lastF
  rw [← List.getLast?_eq_getElem?, List.getLastD_eq_getLast?]
def flatF : List Fl → List Value
  | [] => []
  | x :: M => .int .i64 (x.b : Int) :: .int .i64 (x.s : Int) :: .int .i64 (x.n : Int) :: flatF M
theorem flatF_length : ∀ M : List Fl, (flatF M).length = M.length * 3
  | [] => rfl
  | d :: M => by simp [flatF, flatF_length M]; omega
theorem flatF_append : ∀ (M : List Fl) (N : List Fl), flatF (M ++ N) = flatF M ++ flatF N
  | [], N => rfl
  | d :: M, N => by simp [flatF, flatF_append M N]
theorem flatF_get : ∀ (M : List Fl) (i : Nat) (_ : i < M.length), (flatF M)[i * 3]? = some (.int .i64 ((fA M i).b : Int)) ∧ (flatF M)[i * 3 + 1]? = some (.int .i64 ((fA M i).s : Int)) ∧ (flatF M)[i * 3 + 2]? = some (.int .i64 ((fA M i).n : Int))
  | [], i, h => by simp at h
  | d :: M, 0, _ => by simp [flatF, fA]
  | d :: M, i + 1, h => by
    have := flatF_get M i (by simpa using h)
    have e : (i + 1) * 3 = i * 3 + 3 := by omega
    have e2 : fA (d :: M) (i + 1) = fA M i := by simp [fA]
    rw [e, e2]
    simpa [flatF] using this
theorem flatF_one : ∀ (L : List Fl), ∀ u ∈ flatF L, u.oneCell' = true
  | [], u, h => by simp [flatF] at h
  | d :: L, u, h => by
    simp only [flatF, List.mem_cons] at h
    rcases h with rfl | rfl | rfl | h
    · rfl
    · rfl
    · rfl
    · exact flatF_one L u h
theorem flatF_set : ∀ (M : List Fl) (i m : Nat), flatF (M.set i ⟨(fA M i).b, (fA M i).s, m⟩) = (flatF M).set (i * 3 + 2) (.int .i64 (m : Int))
  | [], i, u => by simp [flatF]
  | d :: M, 0, u => by simp [flatF, fA]
  | d :: M, i + 1, u => by
    have := flatF_set M i u
    have e : (i + 1) * 3 = i * 3 + 3 := by omega
    have e2 : fA (d :: M) (i + 1) = fA M i := by simp [fA]
    rw [e, e2]
    simp [flatF, this]
theorem info_f : (Try.prog.info? 55).map (fun i => (i.zero, i.bytes, i.size)) = some (some (.agg #[.int .i64 0, .int .i64 0, .int .i64 0]), 24, 3) := by kernel_rfl
theorem parts_f : ∃ i, Try.prog.info? 55 = some i ∧ i.zero = some (.agg #[.int .i64 0, .int .i64 0, .int .i64 0]) ∧ i.size = 3 ∧ i.bytes = 24 := by
  obtain ⟨i, hi, h2⟩ := Option.map_eq_some_iff.1 info_f
  simp only [Prod.mk.injEq] at h2
  exact ⟨i, hi, h2.1, h2.2.2, h2.2.1⟩

/-- Fills in memory. -/
structure OwnF (w : World) (b : Nat) (H : List Fl) : Prop where
  cell : ∀ i, i < H.length → w.cell? ⟨b, i * 3, none⟩ = some (.int .i64 ((fA H i).b : Int)) ∧ w.cell? ⟨b, i * 3 + 1, none⟩ = some (.int .i64 ((fA H i).s : Int)) ∧ w.cell? ⟨b, i * 3 + 2, none⟩ = some (.int .i64 ((fA H i).n : Int))
  fz : ∀ j, w.frozen? ⟨b, j, none⟩ = false
  lt : b < w.heap.size
/-- Fills that one owns; none yet, or in a row. -/
def RowF (B : Nat) (w : World) (v : Value) (O : List Fl) : Prop := w.ownsRow B 55 3 v O.length (flatF O)
theorem RowF.frm {S : Nat → Prop} {B : Nat} {w w' : World} {v : Value} {O : List Fl} (h : RowF B w v O) (f : Frm S w w') (hS : ∀ q, v.ownBlock = some q → ¬ S q) : RowF B w' v O := by
  refine ⟨h.1, ?_⟩
  rcases h.2 with h2 | ⟨g, cap, cur, rfl, h3, h4, h5⟩
  · exact Or.inl h2
  · exact Or.inr ⟨g, cap, cur, rfl, h3, by rw [f.block g (blk_lt h4) (hS g rfl)]; exact h4, h5⟩
theorem RowF.old {B : Nat} {w w' : World} {v : Value} {O : List Fl} (h : RowF B w v O) (o : Old w w') : RowF B w' v O := h.frm o (fun _ _ h => h)
theorem RowF.form {B : Nat} {w : World} {v : Value} {O : List Fl} (h : RowF B w v O) : (v = .slice none 0 0 ∧ O = []) ∨ ∃ b cap, v = .slice (some ⟨b, 0, none⟩) O.length cap ∧ O.length ≤ cap ∧ B ≤ b ∧ OwnF w b O := by
  rcases h.2 with ⟨rfl, h0⟩ | ⟨g, cap, cur, rfl, h3, h4, h5, h6, h7, h8⟩
  · exact Or.inl ⟨rfl, List.eq_nil_of_length_eq_zero h0⟩
  · refine Or.inr ⟨g, cap, rfl, by omega, h3, fun i hi => ?_, fun j => blk_fz h4 j, blk_lt h4⟩
    obtain ⟨f1, f2, f3⟩ := flatF_get O i hi
    have g1 : (cur.toList.take (O.length * 3))[i * 3]? = (flatF O)[i * 3]? := by rw [h8]
    have g2 : (cur.toList.take (O.length * 3))[i * 3 + 1]? = (flatF O)[i * 3 + 1]? := by rw [h8]
    have g3 : (cur.toList.take (O.length * 3))[i * 3 + 2]? = (flatF O)[i * 3 + 2]? := by rw [h8]
    rw [List.getElem?_take_of_lt (by omega), f1] at g1
    rw [List.getElem?_take_of_lt (by omega), f2] at g2
    rw [List.getElem?_take_of_lt (by omega), f3] at g3
    exact ⟨blk_cells h4 (by simpa using g1), blk_cells h4 (by simpa using g2), blk_cells h4 (by simpa using g3)⟩
theorem RowF.set {B : Nat} {w : World} {b n cap : Nat} {O : List Fl} (h : RowF B w (.slice (some ⟨b, 0, none⟩) n cap) O) (i m : Nat) : RowF B (w.setCell ⟨b, i * 3 + 2, none⟩ (.int .i64 (m : Int))) (.slice (some ⟨b, 0, none⟩) n cap) (O.set i ⟨(fA O i).b, (fA O i).s, m⟩) := by
  refine ⟨by rw [flatF_length], ?_⟩
  rcases h.2 with ⟨e, _⟩ | ⟨g, cp, cur, e, h3, h4, h5, h6, h7, h8⟩
  · cases e
  · simp only [Value.slice.injEq, Option.some.injEq, Addr.mk.injEq, and_true] at e
    obtain ⟨rfl, rfl, rfl⟩ := e
    refine Or.inr ⟨b, cap, _, by rw [List.length_set], h3, heap_set _ h4, by rw [List.length_set]; exact h5, h6, by simp [h7], ?_⟩
    rw [flatF_set, ← h8, List.length_set]
    simp only [Array.toList_setIfInBounds, List.take_set]

/-- A fill behind a row that one owns. -/
theorem wpAppF {ops : Array Oper} {rest : List Oper} {o : Oper} {a : Act} {Q : Exit → Act → World → Prop} {w : World} (hgd : o.guard = none) (s x : Operand) (ho : o.op = .call { callee := .builtin .append, args := #[s, x], argTypes := #[52, 52] })
    (B : Nat) (v : Value) (b c2 : Nat) (O : List Fl) (u : Fl) (hs : a.eval s = v) (hx : a.eval x = .slice (some ⟨b, 0, none⟩) 1 c2) (hown : RowF B w v O) (hO : w.heap[b]? = some (.cells #[.int .i64 (u.b : Int), .int .i64 (u.s : Int), .int .i64 (u.n : Int)] 55 (0, 0))) (hl : O.length ≤ 1000000) (hB : B ≤ w.heap.size)
    (h : ∀ v' w', RowF B w' v' (O ++ [u]) → w.grownBy w' v.ownBlock → wpList Try.prog ops Q rest (a.put o.dst v') w') : wpList Try.prog ops Q (o :: rest) a w := by
  obtain ⟨i0, hi0, hz0, hz1, hz2⟩ := parts_f
  have hc : ∀ j x, (flatF [u])[j]? = some x → w.cell? ((⟨b, 0, none⟩ : Addr).add j) = some x := fun j x hu => by
    have hj : j < 3 := by have := (List.getElem?_eq_some_iff.1 hu).1; rw [flatF_length] at this; simpa using this
    rw [Addr.add_lit, Nat.zero_add]
    refine blk_cells hO ?_
    match j, hj with
    | 0, _ => exact hu
    | 1, _ => exact hu
    | 2, _ => exact hu
  exact wpList_append_own _ hgd s x 52 ho B 55 i0 _ 3 24 Try.underlying52 hi0 hz0 hz1 hz2 rfl (by omega) v O.length (flatF O) hs hown ⟨b, 0, none⟩ 1 c2 (flatF [u]) hx (flatF_length [u]) hc (flatF_one [u]) (by unfold maxLen; omega) (by omega) hB (fun v' w' h8 h9 _ => h v' w' (by unfold RowF; rw [List.length_append, flatF_append]; exact h8) h9)
theorem rowF_block {w : World} {B : Nat} {v : Value} {O : List Fl} (h : RowF B w v O) {g : Nat} (hg : v.ownBlock = some g) : B ≤ g ∧ g < w.heap.size := by
  rcases h.2 with h2 | ⟨g', cap, cur, rfl, h3, h4, h5⟩
  · rcases h2 with ⟨rfl, _⟩
    simp [Value.ownBlock] at hg
  · simp [Value.ownBlock] at hg
    subst hg
    exact ⟨h3, blk_lt h4⟩
/-- One more unit, laid by a change of the last fill. -/
theorem adF_set {F : List Fl} {x y : Nat} (h : F ≠ []) (hb : (lastF F).b = x) (hs : (lastF F).s = y) : F.set (F.length - 1) ⟨(fA F (F.length - 1)).b, (fA F (F.length - 1)).s, (fA F (F.length - 1)).n + 1⟩ = adF F x y := by
  unfold adF
  rw [if_pos ⟨h, hb, hs⟩, fA_last h, hb, hs]
  obtain ⟨D, g, rfl⟩ := List.eq_nil_or_concat F |>.resolve_left h
  simp
end Go.Proofs.Ytccbmmbcfcppeaa
