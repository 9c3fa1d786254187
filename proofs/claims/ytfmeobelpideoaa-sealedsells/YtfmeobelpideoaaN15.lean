/- A row of numbers that grows and is written; one is put in its place. -/
import Derived.Test.YtfmeobelpideoaaN14
namespace Go.Proofs.Ytfmeobelpideoaa
open Go.RowKit

theorem parts_i : ∃ i, Try.prog.info? 3 = some i ∧ i.zero = some (.int .i64 0) ∧ i.size = 1 ∧ i.bytes = 8 := by
  obtain ⟨i, hi, h2⟩ := Option.map_eq_some_iff.1 info_int
  simp only [Prod.mk.injEq] at h2
  exact ⟨i, hi, h2.1, h2.2.2, h2.2.1⟩
theorem num_cells {w : World} {ad : Addr} {L : List Int} (h : NumsC .i64 w (some ad) L) (j : Nat) (u : Value) (hu : (L.map (Value.int .i64))[j]? = some u) : w.cell? (ad.add j) = some u := by
  have hj : j < L.length := by
    have := (List.getElem?_eq_some_iff.1 hu).1
    simpa using this
  obtain ⟨g, o, e, hc⟩ := h j hj
  obtain rfl : ad = ⟨g, o, none⟩ := by simpa using e
  rw [Addr.add_lit, hc]
  simpa [hj] using hu
theorem ints_one (L : List Int) : ∀ u ∈ L.map (Value.int .i64), u.oneCell' = true := fun u hu => by
  obtain ⟨x, -, rfl⟩ := List.mem_map.1 hu
  rfl

/-- A number behind a row that one owns. -/
theorem wpAppI {ops : Array Oper} {rest : List Oper} {o : Oper} {a : Act} {Q : Exit → Act → World → Prop} {w : World} (hgd : o.guard = none) (s x : Operand) (ho : o.op = .call { callee := .builtin .append, args := #[s, x], argTypes := #[32, 32] })
    (B : Nat) (v : Value) (ad : Addr) (c2 : Nat) (L1 L2 : List Int) (hs : a.eval s = v) (hx : a.eval x = .slice (some ad) L2.length c2) (hown : w.ownsRow B 3 1 v L1.length (L1.map (Value.int .i64))) (hN : NumsC .i64 w (some ad) L2) (hl : L1.length + L2.length ≤ 1000000) (hB : B ≤ w.heap.size)
    (h : ∀ v' w', w'.ownsRow B 3 1 v' (L1 ++ L2).length ((L1 ++ L2).map (Value.int .i64)) → w.grownBy w' v.ownBlock → wpList Try.prog ops Q rest (a.put o.dst v') w') : wpList Try.prog ops Q (o :: rest) a w := by
  obtain ⟨i3, hi, hz0, hz1, hz2⟩ := parts_i
  exact wpList_append_own _ hgd s x 32 ho B 3 i3 _ 1 8 Try.underlying32 hi hz0 hz1 hz2 rfl (by omega) v L1.length (L1.map (Value.int .i64)) hs hown ad L2.length c2 (L2.map (Value.int .i64)) hx (by simp) (num_cells hN) (ints_one L2) (by unfold maxLen; omega) (by omega) hB (fun v' w' h8 h9 _ => h v' w' (by rw [List.length_append, List.map_append]; exact h8) h9)

/-- A row of n numbers that one owns. -/
structure RI (B : Nat) (w : World) (b n cap : Nat) (f : Dat) : Prop where
  row : w.ownsRow B 3 1 (.slice (some ⟨b, 0, none⟩) n cap) n ((dl n f).map (Value.int .i64))
theorem RI.cell {B : Nat} {w : World} {b n cap : Nat} {f : Dat} (h : RI B w b n cap f) {i : Nat} (hi : i < n) : w.cell? ⟨b, i, none⟩ = some (.int .i64 (f i : Int)) ∧ w.frozen? ⟨b, i, none⟩ = false := by
  rcases h.row.2 with ⟨e, _⟩ | ⟨g, cp, cur, e, h3, h4, h5, h6, h7, h8⟩
  · cases e
  · simp only [Value.slice.injEq, Option.some.injEq, Addr.mk.injEq, and_true, true_and] at e
    obtain ⟨rfl, rfl⟩ := e
    refine ⟨blk_cells h4 ?_, blk_fz h4 i⟩
    have g1 : (cur.toList.take (n * 1))[i]? = ((dl n f).map (Value.int .i64))[i]? := by rw [h8]
    rw [List.getElem?_take_of_lt (by omega)] at g1
    have hi2 : i < (dl n f).length := by rw [dl_len]; exact hi
    rw [List.getElem?_map, List.getElem?_eq_getElem hi2, dl_at hi] at g1
    simpa using g1
theorem RI.set {B : Nat} {w : World} {b n cap : Nat} {f : Dat} (h : RI B w b n cap f) (i : Nat) (x : Nat) : RI B (w.setCell ⟨b, i, none⟩ (.int .i64 (x : Int))) b n cap (fun t => if t = i then x else f t) := by
  refine ⟨⟨?_, ?_⟩⟩
  · simp [dl_len]
  · rcases h.row.2 with ⟨e, _⟩ | ⟨g, cp, cur, e, h3, h4, h5, h6, h7, h8⟩
    · cases e
    · simp only [Value.slice.injEq, Option.some.injEq, Addr.mk.injEq, and_true, true_and] at e
      obtain ⟨rfl, rfl⟩ := e
      refine Or.inr ⟨b, cap, _, rfl, h3, heap_set _ h4, h5, h6, by simp [h7], ?_⟩
      have e2 : dl n (fun t => if t = i then x else f t) = (dl n f).set i (x : Int) := by
        apply List.ext_getElem
        · simp [dl_len]
        · intro t h1 h2
          have ht : t < n := by rw [dl_len] at h1; exact h1
          rw [dl_at ht, List.getElem_set]
          by_cases e3 : i = t
          · rw [if_pos e3.symm, if_pos e3]
          · rw [if_neg (fun e => e3 e.symm), if_neg e3, dl_at ht]
      rw [e2, List.map_set, ← h8]
      simp only [Array.toList_setIfInBounds, List.take_set]
theorem RI.nums {B : Nat} {w : World} {b n cap : Nat} {f : Dat} (h : RI B w b n cap f) : NumsC .i64 w (some ⟨b, 0, none⟩) (dl n f) := fun i hi => by
  have hi' : i < n := by rw [dl_len] at hi; exact hi
  refine ⟨b, 0, rfl, ?_⟩
  rw [Nat.zero_add, dl_at hi']
  exact (h.cell hi').1
theorem RI.congr {B : Nat} {w : World} {b n cap : Nat} {f g : Dat} (h : RI B w b n cap f) (e : ∀ t, t < n → g t = f t) : RI B w b n cap g := by
  have : dl n g = dl n f := by
    unfold dl
    apply List.map_congr_left
    intro t ht
    rw [e t (List.mem_range.1 ht)]
  exact ⟨by rw [this]; exact h.row⟩

/-- The first n numbers lie in a row, or there is none yet. -/
def RV (B : Nat) (w : World) (v : Value) (n : Nat) (f : Dat) : Prop := w.ownsRow B 3 1 v n ((dl n f).map (Value.int .i64))
theorem RV.form {B : Nat} {w : World} {v : Value} {n : Nat} {f : Dat} (h : RV B w v n f) : (v = .slice none 0 0 ∧ n = 0) ∨ ∃ b cap, v = .slice (some ⟨b, 0, none⟩) n cap ∧ RI B w b n cap f ∧ B ≤ b := by
  rcases h.2 with ⟨e, h0⟩ | ⟨g, cp, cur, rfl, h3, hr⟩
  · exact Or.inl ⟨e, h0⟩
  · exact Or.inr ⟨g, cp, rfl, ⟨h⟩, h3⟩

/-- Those from k on are shifted. -/
def shf (k i : Nat) (f : Dat) : Dat := fun t => if k < t ∧ t ≤ i then f (t - 1) else f t
theorem shf_zero (i : Nat) (f : Dat) : shf i i f = f := by
  funext t
  unfold shf
  rw [if_neg (by omega)]
theorem shf_succ {k i : Nat} (h : k < i) (f : Dat) : (fun t => if t = k + 1 then shf (k + 1) i f k else shf (k + 1) i f t) = shf k i f := by
  funext t
  unfold shf
  by_cases e : t = k + 1
  · subst e
    rw [if_pos rfl, if_neg (by omega), if_pos (by omega)]
    rfl
  · rw [if_neg e]
    by_cases h1 : k + 1 < t ∧ t ≤ i
    · rw [if_pos h1, if_pos (by omega)]
    · rw [if_neg h1, if_neg (by omega)]
theorem shf_put {k i : Nat} {f : Dat} (hf : f i = i) : (fun t => if t = k then i else shf k i f t) = mvL k i f := by
  funext t
  unfold shf mvL
  by_cases e : t = k
  · rw [if_pos e, if_pos e, hf]
  · rw [if_neg e, if_neg e]
end Go.Proofs.Ytfmeobelpideoaa
