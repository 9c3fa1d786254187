/- Held coins in memory: rows of them, and what is appended. -/
import Derived.Test.YthibbenkibjghaaA4
import Derived.Laws.MakeOwn
import Derived.Deep.AppendLies
import Derived.Laws.AppendOwnNone
import Derived.Lib.SliceRun
namespace Go.Proofs.Ythibbenkibjghaa
open Go.RowKit

theorem made_ints (k : IntKind) (n : Nat) : madeCells (Value.int k 0).cells n = Array.replicate n (Value.int k 0) := by
  unfold madeCells
  apply Array.ext
  · simp
  · intro i h1 h2
    simp [Value.cells, Nat.mod_one]

theorem info_s : (Try.prog.info? 27).map (fun i => (i.zero, i.bytes, i.size)) = some (some (.agg #[.int .i64 0, .int .i64 0]), 16, 2) := by kernel_rfl
theorem make_s (n : Nat) (hn : n ≤ 1099511627776) (w : World) : (Instr.makeSlice 22 (.int .i64 0) (.int .i64 (n : Int))).run Try.prog w = .ok (.slice (some ⟨w.heap.size, 0, none⟩) 0 n) (w.alloc (.cells (madeCells (Value.agg #[.int .i64 0, .int .i64 0]).cells (n * 2)) 27)) := by
  obtain ⟨i, hi, h2⟩ := Option.map_eq_some_iff.1 info_s
  simp only [Prod.mk.injEq] at h2
  obtain ⟨hz, hb, hs⟩ := h2
  have h := run_make (P := Try.prog) w 22 27 i (.agg #[.int .i64 0, .int .i64 0]) Try.underlying22 hi hz .i64 .i64 0 n (by omega) (by omega) (by rw [hb]; omega) (by omega)
  rw [h, hs]
  simp only [Int.toNat_natCast]
  rfl

/-- A row of held coins of one's own. -/
structure OwnS (w : World) (b : Nat) (L : List Hd) : Prop where
  cell : ∀ i (h : i < L.length), w.cell? ⟨b, i * 2, none⟩ = some (.int .i64 L[i].1) ∧ w.cell? ⟨b, i * 2 + 1, none⟩ = some (.int .i64 L[i].2)
  fz : ∀ j, w.frozen? ⟨b, j, none⟩ = false
  lt : b < w.heap.size

theorem OwnS.off {w : World} {b : Nat} {L : List Hd} (h : OwnS w b L) : HdC w (some ⟨b, 0, none⟩) L := fun i hi => ⟨b, 0, rfl, by rw [Nat.zero_add]; exact (h.cell i hi).1, by rw [Nat.zero_add]; exact (h.cell i hi).2⟩

theorem OwnS.old {w w' : World} {b : Nat} {L : List Hd} (h : OwnS w b L) (o : Old w w') : OwnS w' b L :=
  ⟨fun i hi => ⟨o.cell (h.cell i hi).1, o.cell (h.cell i hi).2⟩, fun j => frm_frozen o h.lt (h.fz j) (fun h => h), Nat.lt_of_lt_of_le h.lt o.size⟩

theorem OwnS.made (w : World) (n : Nat) : OwnS (w.alloc (.cells (madeCells (Value.agg #[.int .i64 0, .int .i64 0]).cells (n * 2)) 27)) w.heap.size (List.replicate n (0, 0)) := by
  have hb := heap_new w (.cells (madeCells (Value.agg #[.int .i64 0, .int .i64 0]).cells (n * 2)) 27)
  refine ⟨fun i hi => ?_, fun j => blk_fz hb j, by simp⟩
  have hi' : i < n := by simpa using hi
  have h1 : i * 2 < n * 2 := by omega
  have h2 : i * 2 + 1 < n * 2 := by omega
  refine ⟨blk_cells hb ?_, blk_cells hb ?_⟩
  · unfold madeCells
    simp [Value.cells, h1]
  · have h3 : (i * 2 + 1) % 2 = 1 := by omega
    unfold madeCells
    simp [Value.cells, h2, h3]

theorem OwnS.set {w : World} {b i : Nat} {L : List Hd} (h : OwnS w b L) (x : Hd) : OwnS ((w.setCell ⟨b, i * 2, none⟩ (.int .i64 x.1)).setCell ⟨b, i * 2 + 1, none⟩ (.int .i64 x.2)) b (L.set i x) := by
  refine ⟨fun j hj => ?_, fun j => set_fz (set_fz h.fz) j, by simp [World.setCell]; exact h.lt⟩
  have hj' : j < L.length := by simpa using hj
  obtain ⟨c1, c2⟩ := h.cell j hj'
  rw [List.getElem_set]
  by_cases e : i = j
  · subst e
    rw [if_pos rfl]
    exact ⟨set_oth (set_same c1) (by omega), set_same (set_oth c2 (by omega))⟩
  · rw [if_neg e]
    exact ⟨set_oth (set_oth c1 (by omega)) (by omega), set_oth (set_oth c2 (by omega)) (by omega)⟩

theorem OwnS.at {w : World} {b i : Nat} {L : List Hd} {x : Hd} (h : OwnS w b L) (hx : L[i]? = some x) : w.cell? ⟨b, i * 2, none⟩ = some (.int .i64 x.1) ∧ w.cell? ⟨b, i * 2 + 1, none⟩ = some (.int .i64 x.2) := by
  obtain ⟨hi, e⟩ := List.getElem?_eq_some_iff.1 hx
  have := h.cell i hi
  rwa [e] at this

theorem row_at {K S : List Hd} {k : Nat} (h1 : K.length ≤ k) (h2 : k < S.length) : (K ++ S.drop K.length)[k]? = some S[k] := by
  rw [List.getElem?_append_right h1, List.getElem?_drop, show K.length + (k - K.length) = k by omega]
  simp
theorem row_lo {K S : List Hd} {i : Nat} (h : i < K.length) : (K ++ S.drop K.length)[i]? = some K[i] := by
  rw [List.getElem?_append_left h]
  simp
theorem row_set {K S : List Hd} (y : Hd) (h : K.length < S.length) : (K ++ S.drop K.length).set K.length y = (K ++ [y]) ++ S.drop (K ++ [y]).length := by
  have e : S.drop K.length = S[K.length] :: S.drop (K.length + 1) := List.drop_eq_getElem_cons h
  rw [List.set_append_right _ _ (Nat.le_refl _), Nat.sub_self, e, List.set_cons_zero, List.length_append]
  simp
theorem OwnS.front {w : World} {b : Nat} {K R : List Hd} (h : OwnS w b (K ++ R)) : OwnS w b K :=
  ⟨fun i hi => h.at (by rw [List.getElem?_append_left hi]; simp), h.fz, h.lt⟩

theorem OwnS.frm {w w' : World} {b : Nat} {L : List Hd} (h : OwnS w b L) {S : Nat → Prop} (f : Frm S w w') (hS : ¬ S b) : OwnS w' b L :=
  ⟨fun i hi => ⟨frm_cell f (h.cell i hi).1 hS, frm_cell f (h.cell i hi).2 hS⟩, fun j => frm_frozen f h.lt (h.fz j) hS, Nat.lt_of_lt_of_le h.lt f.size⟩
theorem OwnS.behind {w : World} {b : Nat} {L : List Hd} (h : OwnS w b L) (i : Nat) : HdC w (some ⟨b, i * 2, none⟩) (L.drop i) := fun j hj => by
  have hj' : i + j < L.length := by simp at hj; omega
  have := h.cell (i + j) hj'
  rw [show (i + j) * 2 = i * 2 + j * 2 by omega] at this
  exact ⟨b, i * 2, rfl, by rw [List.getElem_drop]; exact this.1, by rw [List.getElem_drop]; exact this.2⟩
theorem OwnS.ahead {w : World} {b : Nat} {L : List Hd} (h : OwnS w b L) (i : Nat) : HdC w (some ⟨b, 0, none⟩) (L.take i) := fun j hj => by
  have hj' : j < L.length := by simp at hj; omega
  have := h.cell j hj'
  exact ⟨b, 0, rfl, by rw [Nat.zero_add, List.getElem_take]; exact this.1, by rw [Nat.zero_add, List.getElem_take]; exact this.2⟩

/-- The cells of a row of held coins. -/
def flatS : List Hd → List Value
  | [] => []
  | x :: M => .int .i64 x.1 :: .int .i64 x.2 :: flatS M
theorem flatS_length : ∀ M : List Hd, (flatS M).length = M.length * 2
  | [] => rfl
  | d :: M => by simp [flatS, flatS_length M]; omega
theorem flatS_append : ∀ (M : List Hd) (N : List Hd), flatS (M ++ N) = flatS M ++ flatS N
  | [], N => rfl
  | d :: M, N => by simp [flatS, flatS_append M N]
theorem flatS_get : ∀ (M : List Hd) (i : Nat) (h : i < M.length), (flatS M)[i * 2]? = some (.int .i64 M[i].1) ∧ (flatS M)[i * 2 + 1]? = some (.int .i64 M[i].2)
  | [], i, h => by simp at h
  | d :: M, 0, _ => by simp [flatS]
  | d :: M, i + 1, h => by
    have := flatS_get M i (by simpa using h)
    have e : (i + 1) * 2 = i * 2 + 2 := by omega
    rw [e]
    simpa [flatS] using this
theorem flatS_one : ∀ (L : List Hd), ∀ u ∈ flatS L, u.oneCell' = true
  | [], u, h => by simp [flatS] at h
  | d :: L, u, h => by
    simp only [flatS, List.mem_cons] at h
    rcases h with rfl | rfl | h
    · rfl
    · rfl
    · exact flatS_one L u h

theorem parts_s : ∃ i, Try.prog.info? 27 = some i ∧ i.zero = some (.agg #[.int .i64 0, .int .i64 0]) ∧ i.size = 2 ∧ i.bytes = 16 := by
  obtain ⟨i, hi, h2⟩ := Option.map_eq_some_iff.1 info_s
  simp only [Prod.mk.injEq] at h2
  exact ⟨i, hi, h2.1, h2.2.2, h2.2.1⟩

theorem off_cells {w : World} {ad : Addr} {L : List Hd} (h : HdC w (some ad) L) (j : Nat) (u : Value) (hu : (flatS L)[j]? = some u) : w.cell? (ad.add j) = some u := by
  have hj : j < (flatS L).length := (List.getElem?_eq_some_iff.1 hu).1
  rw [flatS_length] at hj
  obtain ⟨g, o, e, c1, c2⟩ := h (j / 2) (by omega)
  obtain ⟨f1, f2⟩ := flatS_get L (j / 2) (by omega)
  simp only [Option.some.injEq] at e
  subst e
  rw [Addr.add_lit]
  rcases Nat.mod_two_eq_zero_or_one j with e | e
  · have e2 : j = j / 2 * 2 := by omega
    rw [← e2] at c1 f1
    rw [c1, ← f1, hu]
  · have e2 : j = j / 2 * 2 + 1 := by omega
    rw [← e2] at f2
    rw [show o + j / 2 * 2 + 1 = o + j by omega] at c2
    rw [c2, ← f2, hu]

/-- Held coins in memory behind a row that one owns. -/
theorem wpAppS {ops : Array Oper} {rest : List Oper} {o : Oper} {a : Act} {Q : Exit → Act → World → Prop} {w : World} (hgd : o.guard = none) (s x : Operand) (ho : o.op = .call { callee := .builtin .append, args := #[s, x], argTypes := #[22, 22] })
    (B : Nat) (v : Value) (xo : Option Addr) (c2 : Nat) (L1 L2 : List Hd) (hs : a.eval s = v) (hx : a.eval x = .slice xo L2.length c2) (hown : w.ownsRow B 27 2 v L1.length (flatS L1)) (hO : HdC w xo L2) (hn : xo = none → c2 = 0) (hl : L1.length + L2.length ≤ 8796093022208) (hB : B ≤ w.heap.size)
    (h : ∀ v' w', w'.ownsRow B 27 2 v' (L1 ++ L2).length (flatS (L1 ++ L2)) → w.grownBy w' v.ownBlock → wpList Try.prog ops Q rest (a.put o.dst v') w') : wpList Try.prog ops Q (o :: rest) a w := by
  obtain ⟨i0, hi0, hz0, hz1, hz2⟩ := parts_s
  cases xo with
  | none =>
    have hM : L2 = [] := by
      apply List.eq_nil_of_length_eq_zero
      apply Nat.eq_zero_of_not_pos
      intro hp
      obtain ⟨g, o, e, _⟩ := hO 0 hp
      cases e
    subst hM
    rw [hn rfl] at hx
    refine wpList_append_own_none hgd s x 22 ho B 27 i0 2 Try.underlying22 hi0 v L1.length (flatS L1) hs hown hx ?_
    refine h v w (by simpa using hown) ⟨rfl, rfl, rfl, Nat.le_refl _, fun _ _ _ => rfl⟩
  | some ad =>
    exact wpList_append_own _ hgd s x 22 ho B 27 i0 _ 2 16 Try.underlying22 hi0 hz0 hz1 hz2 rfl (by omega) v L1.length (flatS L1) hs hown ad L2.length c2 (flatS L2) hx (flatS_length L2) (off_cells hO) (flatS_one L2) (by unfold maxLen; omega) (by omega) hB (fun v' w' h8 h9 _ => h v' w' (by rw [List.length_append, flatS_append]; exact h8) h9)

/-- Held coins in new memory. -/
def NewS (B : Nat) (w : World) (v : Value) (L : List Hd) : Prop := (v = .slice none 0 0 ∧ L = []) ∨ ∃ b cap, v = .slice (some ⟨b, 0, none⟩) L.length cap ∧ B ≤ b ∧ L.length ≤ cap ∧ OwnS w b L

theorem owns_new {w : World} {B : Nat} {v : Value} {L : List Hd} (h : w.ownsRow B 27 2 v L.length (flatS L)) : NewS B w v L := by
  rcases h.2 with ⟨rfl, h0⟩ | ⟨g, cap, cur, rfl, h3, h4, h5, h6, h7, h8⟩
  · exact Or.inl ⟨rfl, List.eq_nil_of_length_eq_zero h0⟩
  · refine Or.inr ⟨g, cap, rfl, h3, by omega, fun i hi => ?_, fun j => blk_fz h4 j, blk_lt h4⟩
    obtain ⟨f1, f2⟩ := flatS_get L i hi
    have g1 : (cur.toList.take (L.length * 2))[i * 2]? = (flatS L)[i * 2]? := by rw [h8]
    have g2 : (cur.toList.take (L.length * 2))[i * 2 + 1]? = (flatS L)[i * 2 + 1]? := by rw [h8]
    rw [List.getElem?_take_of_lt (by omega), f1] at g1
    rw [List.getElem?_take_of_lt (by omega), f2] at g2
    exact ⟨blk_cells h4 (by simpa using g1), blk_cells h4 (by simpa using g2)⟩

theorem NewS.off {B : Nat} {w : World} {v : Value} {L : List Hd} (h : NewS B w v L) : ∃ ao cap, v = .slice ao L.length cap ∧ HdC w ao L ∧ (ao = none → cap = 0) := by
  rcases h with ⟨rfl, rfl⟩ | ⟨b, cap, rfl, _, _, ow⟩
  · exact ⟨none, 0, rfl, fun i hi => by simp at hi, fun _ => rfl⟩
  · exact ⟨_, _, rfl, ow.off, fun h => by cases h⟩

theorem NewS.old {B : Nat} {w w' : World} {v : Value} {L : List Hd} (h : NewS B w v L) (o : Old w w') : NewS B w' v L := by
  rcases h with h | ⟨b, cap, h1, h2, h3, ow⟩
  · exact Or.inl h
  · exact Or.inr ⟨b, cap, h1, h2, h3, ow.old o⟩

end Go.Proofs.Ythibbenkibjghaa
