/- Entries that are handed in; a posting while it is made. -/
import Derived.Test.YtlhlmkdgbgppiaaL5
import Derived.Laws.MakeOwn
import Derived.Deep.AppendLies
import Derived.Laws.AppendOwnNone
import Derived.Lib.SliceRun
namespace Go.Proofs.Ytlhlmkdgbgppiaa
open Go.RowKit Go.Shelf Go.Maps

/-- Entries as they lie. -/
def EsC (w : World) (ao : Option Addr) (E : List Es) : Prop :=
  ∀ i (h : i < E.length), ∃ g o, ao = some ⟨g, o, none⟩ ∧ w.cell? ⟨g, o + i * 2, none⟩ = some (.string ⟨E[i].1.toArray⟩) ∧ w.cell? ⟨g, o + i * 2 + 1, none⟩ = some (.int .i64 E[i].2)
theorem EsC.old {w w' : World} {ao : Option Addr} {E : List Es} (h : EsC w ao E) (o : Old w w') : EsC w' ao E := fun i hi => by
  obtain ⟨g, q, h1, h2, h3⟩ := h i hi
  exact ⟨g, q, h1, o.cell h2, o.cell h3⟩
theorem EsC.frm {S : Nat → Prop} {w w' : World} {ao : Option Addr} {E : List Es} (h : EsC w ao E) (o : Frm S w w') (hS : ∀ g o, ao = some ⟨g, o, none⟩ → ¬ S g) : EsC w' ao E := fun i hi => by
  obtain ⟨g, q, h1, h2, h3⟩ := h i hi
  exact ⟨g, q, h1, frm_cell o h2 (hS g q h1), frm_cell o h3 (hS g q h1)⟩

def OwnE (w : World) (b : Nat) (q : List En) : Prop := w.heap[b]? = some (.cells (flatE q).toArray 150 (0, 0))
theorem OwnE.pos {w : World} {b : Nat} {q : List En} (h : OwnE w b q) : PosC w (.slice (some ⟨b, 0, none⟩) q.length q.length) q := ⟨b, rfl, h⟩
theorem OwnE.frm {S : Nat → Prop} {w w' : World} {b : Nat} {q : List En} (h : OwnE w b q) (f : Frm S w w') (hS : ¬ S b) : OwnE w' b q := by
  unfold OwnE
  rw [f.block b (blk_lt h) hS]
  exact h
theorem flatE_set : ∀ (q : List En) (i : Nat) (x : En), flatE (q.set i x) = ((flatE q).set (i * 2) (.int .i64 (x.1 : Int))).set (i * 2 + 1) (.int .i64 x.2)
  | [], i, x => by simp [flatE]
  | e :: q, 0, x => rfl
  | e :: q, i + 1, x => by
    rw [show (i + 1) * 2 = i * 2 + 1 + 1 from by omega]
    simp only [List.set_cons_succ, flatE, flatE_set q i x]
theorem OwnE.set {w : World} {b i : Nat} {q : List En} (h : OwnE w b q) (x : En) : OwnE ((w.setCell ⟨b, i * 2, none⟩ (.int .i64 (x.1 : Int))).setCell ⟨b, i * 2 + 1, none⟩ (.int .i64 x.2)) b (q.set i x) := by
  unfold OwnE
  rw [heap_set _ (heap_set _ h), flatE_set]
  simp
theorem flatE_zero : ∀ n : Nat, flatE (List.replicate n (0, 0)) = List.replicate (n * 2) (.int .i64 0)
  | 0 => rfl
  | n + 1 => by
    rw [show (n + 1) * 2 = n * 2 + 1 + 1 from by omega]
    simp only [List.replicate_succ, flatE, flatE_zero n]
    rfl
theorem made_e (n : Nat) : madeCells (Value.agg #[.int .i64 0, .int .i64 0]).cells (n * 2) = (flatE (List.replicate n (0, 0))).toArray := by
  rw [flatE_zero]
  unfold madeCells
  apply Array.ext
  · simp
  · intro i h1 h2
    have : i % 2 = 0 ∨ i % 2 = 1 := by omega
    rcases this with h | h <;> simp [Value.cells, h]
theorem info_e : (Try.prog.info? 150).map (fun i => (i.zero, i.bytes, i.size)) = some (some (.agg #[.int .i64 0, .int .i64 0]), 16, 2) := by kernel_rfl
theorem make_e (n : Nat) (hn : n ≤ 128) (w : World) : (Instr.makeSlice 106 (.int .i64 (n : Int)) (.int .i64 (n : Int))).run Try.prog w = .ok (.slice (some ⟨w.heap.size, 0, none⟩) n n) (w.alloc (.cells (flatE (List.replicate n (0, 0))).toArray 150)) := by
  obtain ⟨i, hi, h2⟩ := Option.map_eq_some_iff.1 info_e
  simp only [Prod.mk.injEq] at h2
  obtain ⟨hz, hb, hs⟩ := h2
  have h := run_make (P := Try.prog) w 106 150 i (.agg #[.int .i64 0, .int .i64 0]) Try.underlying106 hi hz .i64 .i64 n n (by omega) (by omega) (by rw [hb]; omega) (by omega)
  rw [h, hs, ← made_e]
  simp only [Int.toNat_natCast]

/-- Those that were laid, and those that are to come. -/
def rowE (L : List (List UInt8)) (E : List Es) (k : Nat) : List En := (planP L E).take k ++ List.replicate (E.length - k) (0, 0)
theorem rowE_zero (L : List (List UInt8)) (E : List Es) : rowE L E 0 = List.replicate E.length (0, 0) := by simp [rowE]
theorem rowE_all (L : List (List UInt8)) (E : List Es) : rowE L E E.length = planP L E := by
  unfold rowE
  rw [List.take_of_length_le (by simp [planP])]
  simp
theorem rowE_set (L : List (List UInt8)) (E : List Es) (k : Nat) (h : k < E.length) : (rowE L E k).set k ((idx L E[k].1).getD 0, E[k].2) = rowE L E (k + 1) := by
  have h1 : (planP L E).length = E.length := by simp [planP]
  have h2 : ((planP L E).take k).length = k := by rw [List.length_take, h1]; omega
  unfold rowE
  rw [show E.length - k = (E.length - (k + 1)) + 1 from by omega, List.replicate_succ, List.set_append_right _ _ (by omega), h2, Nat.sub_self, List.set_cons_zero, List.take_succ_eq_append_getElem (by rw [h1]; exact h), List.append_assoc]
  simp [planP]

theorem sum_take (E : List Es) (k : Nat) (h : k < E.length) : sumC ((E.take (k + 1)).map Prod.snd) = sumC ((E.take k).map Prod.snd) + E[k].2 := by
  rw [List.take_succ_eq_append_getElem h, List.map_append, sumC_append]
  simp [sumC]
theorem mayB_bnd {e : Es} (h : mayB e = true) : -70368744177664 ≤ e.2 ∧ e.2 ≤ 70368744177664 := by
  simp only [mayB, decide_eq_true_eq] at h
  exact h.2.2
/-- The first error among so many entries. -/
def errT (L : List (List UInt8)) (E : List Es) (k : Nat) : Int := if ∃ e ∈ E.take k, idx L e.1 = none then 4 else 0
theorem errT_zero (L : List (List UInt8)) (E : List Es) : errT L E 0 = 0 := by simp [errT]
theorem errT_some (L : List (List UInt8)) (E : List Es) (k : Nat) (h : k < E.length) {i : Nat} (hi : idx L E[k].1 = some i) : errT L E (k + 1) = errT L E k := by
  unfold errT
  have : (∃ e ∈ E.take (k + 1), idx L e.1 = none) ↔ ∃ e ∈ E.take k, idx L e.1 = none := by
    rw [List.take_succ_eq_append_getElem h]
    constructor
    · rintro ⟨e, he, hn⟩
      rcases List.mem_append.1 he with he | he
      · exact ⟨e, he, hn⟩
      · rw [List.mem_singleton.1 he, hi] at hn
        cases hn
    · rintro ⟨e, he, hn⟩
      exact ⟨e, List.mem_append_left _ he, hn⟩
  simp only [this]
theorem errT_none (L : List (List UInt8)) (E : List Es) (k : Nat) (h : k < E.length) (hi : idx L E[k].1 = none) : errT L E (k + 1) = 4 := by
  unfold errT
  rw [if_pos ⟨E[k], by rw [List.take_succ_eq_append_getElem h]; exact List.mem_append_right _ (List.mem_singleton.2 rfl), hi⟩]
end Go.Proofs.Ytlhlmkdgbgppiaa
