/- A mark: raised, read, made. -/
import Derived.Test.YtpnnfkgnkalhlaaK4
import Derived.Shelf.Abstract
namespace Go.Proofs.Ytpnnfkgnkalhlaa
open Go.RowKit

theorem two_news (w : World) (o1 o2 : Obj) : ((w.alloc o1).alloc o2).heap[w.heap.size]? = some o1 ∧ ((w.alloc o1).alloc o2).heap[w.heap.size + 1]? = some o2 ∧ ((w.alloc o1).alloc o2).heap.size = w.heap.size + 2 := by
  have hz : (w.alloc o1).heap.size = w.heap.size + 1 := by simp only [World.alloc, Array.size_push]
  refine ⟨(((Old.refl (w.alloc o1)).alloc o2).block w.heap.size (by omega) (fun h => h)).trans (heap_new w _), ?_, ?_⟩
  · have h := heap_new (w.alloc o1) o2
    rw [hz] at h
    exact h
  · show ((w.alloc o1).heap.push o2).size = _
    rw [Array.size_push, hz]

theorem three_news (w : World) (o1 o2 o3 : Obj) : (((w.alloc o1).alloc o2).alloc o3).heap[w.heap.size]? = some o1 ∧ (((w.alloc o1).alloc o2).alloc o3).heap[w.heap.size + 1]? = some o2 ∧ (((w.alloc o1).alloc o2).alloc o3).heap[w.heap.size + 2]? = some o3 ∧ (((w.alloc o1).alloc o2).alloc o3).heap.size = w.heap.size + 3 := by
  obtain ⟨a, b, c⟩ := two_news w o1 o2
  have ob := (Old.refl ((w.alloc o1).alloc o2)).alloc o3
  refine ⟨(ob.block w.heap.size (by omega) (fun h => h)).trans a, (ob.block (w.heap.size + 1) (by omega) (fun h => h)).trans b, ?_, ?_⟩
  · have h := heap_new ((w.alloc o1).alloc o2) o3
    rw [c] at h
    exact h
  · show (((w.alloc o1).alloc o2).heap.push o3).size = _
    rw [Array.size_push, c]

/-- A mark at mb, its number at nb. -/
structure MarkS (w : World) (mb nb : Nat) (v : Int) : Prop where
  ptr : w.cell? ⟨mb, 0, none⟩ = some (.pointer (some ⟨nb, 0, none⟩))
  num : ∃ t, w.heap[nb]? = some (.cells #[.int .i64 v] t (0, 0))
  ne : nb ≠ mb

theorem mark_raising (p : Option Addr) (k x : Int) (w : World) :
    Calls Try.prog 49 #[.pointer p, .int .i64 k, .int .i64 x] w fun e w' => e = .returned (.tuple #[.func (.func 68) #[] #[.pointer (some ⟨w.heap.size, 0, none⟩), .pointer (some ⟨w.heap.size + 2, 0, none⟩), .pointer (some ⟨w.heap.size + 1, 0, none⟩)], .func (.func 69) #[] #[.pointer (some ⟨w.heap.size + 2, 0, none⟩), .pointer (some ⟨w.heap.size, 0, none⟩), .pointer (some ⟨w.heap.size + 1, 0, none⟩)]]) ∧ Old w w' ∧ (∃ t, w'.heap[w.heap.size]? = some (.cells #[.pointer p] t (0, 0))) ∧ (∃ t, w'.heap[w.heap.size + 1]? = some (.cells #[.int .i64 x] t (0, 0))) ∧ w'.heap[w.heap.size + 2]? = some (.cells #[.int .i64 0] 2 (0, 0)) ∧ w'.heap.size = w.heap.size + 3 := by
  go_enter Try.func49, Try.ntmps49
  go_wp2
  refine bodyPost_ret ?_ rfl ⟨rfl, (((Old.refl w).alloc _).alloc _).alloc _, ?_⟩
  · simp [results, Try.f49, go_sem]
  obtain ⟨a, b, c, d⟩ := three_news w _ _ _
  exact ⟨⟨_, a⟩, ⟨_, b⟩, c, d⟩

theorem cell_of {w : World} {b : Nat} {u : Value} {t : TypeId} (h : w.heap[b]? = some (.cells #[u] t (0, 0))) : w.cell? ⟨b, 0, none⟩ = some u := by simp [World.cell?, h]

theorem mark_whole (bm bs bx mb nb : Nat) (v x : Int) (t : TypeId) (w : World) (h1 : w.cell? ⟨bm, 0, none⟩ = some (.pointer (some ⟨mb, 0, none⟩))) (h2 : w.cell? ⟨mb, 0, none⟩ = some (.pointer (some ⟨nb, 0, none⟩))) (h3 : w.heap[nb]? = some (.cells #[.int .i64 v] t (0, 0))) (h4 : w.cell? ⟨bx, 0, none⟩ = some (.int .i64 x)) (h5 : w.heap[bs]? = some (.cells #[.int .i64 0] 2 (0, 0))) (n1 : nb ≠ bm) (n2 : nb ≠ mb) (n3 : nb ≠ bs) (n4 : nb ≠ bx) (n5 : bs ≠ bx) (n6 : bs ≠ bm) (n7 : bs ≠ mb) :
    Calls Try.prog 33 #[.func (.func 68) #[] #[.pointer (some ⟨bm, 0, none⟩), .pointer (some ⟨bs, 0, none⟩), .pointer (some ⟨bx, 0, none⟩)], .func (.func 69) #[] #[.pointer (some ⟨bs, 0, none⟩), .pointer (some ⟨bm, 0, none⟩), .pointer (some ⟨bx, 0, none⟩)]] w fun e w' => e = .returned (ans v (decide (v < x))) ∧ Frm (fun k => k = bs ∨ k = nb) w w' ∧ w'.heap[nb]? = some (.cells #[.int .i64 (if v < x then x else v)] t (0, 0)) := by
  have e1 : ∀ args w, (callFunc 68 args).run Try.prog w = .ok (.enter 68 args) w := enters_of Try.func68 (by kernel_rfl) rfl
  have e2 : ∀ args w, (callFunc 69 args).run Try.prog w = .ok (.enter 69 args) w := enters_of Try.func69 (by kernel_rfl) rfl
  have l3 : nb < w.heap.size := (Array.getElem?_eq_some_iff.1 h3).1
  have l5 : bs < w.heap.size := (Array.getElem?_eq_some_iff.1 h5).1
  by_cases hv : v < x
  · refine (whole_two 68 69 _ _ v v false true w (fun W' => Frm (fun k => k = bs) w W' ∧ W'.heap[bs]? = some (.cells #[.int .i64 v] 2 (0, 0))) (fun W' => Frm (fun k => k = bs ∨ k = nb) w W' ∧ W'.heap[nb]? = some (.cells #[.int .i64 x] t (0, 0))) e2 e1 ?_ ?_).mono ?_
    · intro W hW
      refine (mark_look bm mb nb bs bx v x 0 W (hW.cell h1) (hW.cell h2) (hW.cell (cell_of h3)) (hW.cell h4) ((hW.block bs l5 (fun h => h)).trans h5) n5).mono ?_
      rintro e W' ⟨rfl, hf, hb⟩
      refine ⟨?_, Frm.mono hf (fun k _ e => by omega), Frm.trans (Frm.mono hW (fun _ _ h => h.elim)) hf (fun _ _ h => h), hb⟩
      have : decide (x ≤ v) = false := by simp; omega
      rw [this]
    · rintro W W' ⟨hf, hb⟩ hn
      have hW : Frm (fun k => k = bs) w W' := Frm.trans hf hn (fun k hk h => by omega)
      have lb : bs < W.heap.size := Nat.lt_of_lt_of_le l5 hf.size
      have hb' := (hn.block bs lb (by omega)).trans hb
      refine (mark_put bm mb nb bs bx v x t W' (frm_cell hW h1 (by simp only; omega)) (frm_cell hW h2 (by simp only; omega)) ((hW.block nb l3 (by omega)).trans h3) (frm_cell hW h4 (by simp only; omega)) (cell_of hb') n1 n2 n3 n4).mono ?_
      rintro e W'' ⟨rfl, hf2, hb2⟩
      exact ⟨rfl, Frm.mono hf2 (fun k _ e => by omega), Frm.trans (Frm.mono hW (fun _ _ h => Or.inl h)) hf2 (fun _ _ h => Or.inr h), hb2⟩
    · rintro e w' ⟨rfl, W', ⟨hf, hb⟩, hn⟩
      refine ⟨by simp [hv], Frm.trans hf hn (fun k hk h => by omega), ?_⟩
      rw [if_pos hv]
      exact (hn.block nb (Nat.lt_of_lt_of_le l3 hf.size) (by omega)).trans hb
  · refine (whole_one 68 _ _ _ _ v false w (fun W' => Frm (fun k => k = bs) w W') e1 ?_).mono ?_
    · intro W hW
      refine (mark_look bm mb nb bs bx v x 0 W (hW.cell h1) (hW.cell h2) (hW.cell (cell_of h3)) (hW.cell h4) ((hW.block bs l5 (fun h => h)).trans h5) n5).mono ?_
      rintro e W' ⟨rfl, hf, hb⟩
      refine ⟨?_, Frm.mono hf (fun k _ e => by omega), Frm.trans (Frm.mono hW (fun _ _ h => h.elim)) hf (fun _ _ h => h)⟩
      have : decide (x ≤ v) = true := by simp; omega
      rw [this]
    · rintro e w' ⟨rfl, W', hf, hn⟩
      have hF : Frm (fun k => k = bs) w w' := Frm.trans hf hn (fun k hk h => by omega)
      refine ⟨by simp [hv], Frm.mono hF (fun _ _ h => Or.inl h), ?_⟩
      rw [if_neg hv]
      exact (hF.block nb l3 (by omega)).trans h3
end Go.Proofs.Ytpnnfkgnkalhlaa
