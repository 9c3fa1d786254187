/- Frames by footprint; slices over cells that hold numbers. Nothing of the program is named here. -/
import Derived.WalkKit
import Derived.WalkSpells
import Derived.WalkLawsBesides
import Derived.Deep.AppendLies
import Derived.Deep.RegionHeld3
import Derived.Deep.RegionLaw
import Derived.Deep.CutRange
import Derived.Test.YtpnnfkgnkalhlaaProg
import Derived.Laws.LoneSync
import Derived.BigQuiet
import Derived.RangeFuncBox
namespace Go.Proofs.Ytpnnfkgnkalhlaa
open Go.RowKit

theorem hid {q : Prop} (h : q) : Hid q := h

theorem ret_i {k : IntKind} {a b : Int} (h : a = b) : Ending.returned (.int k a) = .returned (.int k b) := by rw [h]

/-- w' is w but for the blocks of S, and new ones. -/
structure Frm (S : Nat → Prop) (w w' : World) : Prop where
  os : w'.os = w.os
  tape : w'.tape = w.tape
  output : w'.output = w.output
  size : w.heap.size ≤ w'.heap.size
  block : ∀ k, k < w.heap.size → ¬ S k → w'.heap[k]? = w.heap[k]?

theorem Frm.refl (S : Nat → Prop) (w : World) : Frm S w w := ⟨rfl, rfl, rfl, Nat.le_refl _, fun _ _ _ => rfl⟩

theorem Frm.trans {S T : Nat → Prop} {a b c : World} (h : Frm S a b) (k : Frm T b c) (hST : ∀ i, i < a.heap.size → T i → S i) : Frm S a c :=
  ⟨k.os.trans h.os, k.tape.trans h.tape, k.output.trans h.output, Nat.le_trans h.size k.size,
    fun i hi hS => (k.block i (Nat.lt_of_lt_of_le hi h.size) (fun hT => hS (hST i hi hT))).trans (h.block i hi hS)⟩

theorem Frm.mono {S T : Nat → Prop} {a b : World} (h : Frm S a b) (hST : ∀ i, i < a.heap.size → S i → T i) : Frm T a b :=
  ⟨h.os, h.tape, h.output, h.size, fun i hi hT => h.block i hi (fun hS => hT (hST i hi hS))⟩

theorem Frm.drew {S : Nat → Prop} {a w : World} (h : Frm S a w) : Frm S a w.drew := ⟨h.os, h.tape, h.output, h.size, h.block⟩

theorem Frm.drewN {S : Nat → Prop} {a w : World} (h : Frm S a w) : ∀ n, Frm S a (w.drewN n)
  | 0 => h
  | n + 1 => (Frm.drewN h n).drew

theorem Frm.alloc {S : Nat → Prop} {a w : World} (h : Frm S a w) (o : Obj) : Frm S a (w.alloc o) :=
  ⟨h.os, h.tape, h.output, by simp; have := h.size; omega, fun i hi hS => by
    rw [Below.heap_alloc _ _ _ (Nat.lt_of_lt_of_le hi h.size)]; exact h.block i hi hS⟩

theorem Frm.setCell {S : Nat → Prop} {a w : World} (h : Frm S a w) (p : Addr) (hp : a.heap.size ≤ p.block ∨ S p.block) (u : Value) : Frm S a (w.setCell p u) :=
  ⟨h.os, h.tape, h.output, by simp [World.setCell]; exact h.size, fun i hi hS => by
    rw [Below.heap_setCell _ _ _ _ (by rcases hp with hp | hp; · omega
                                       · intro e; subst e; exact hS hp)]
    exact h.block i hi hS⟩

theorem Frm.grown {S : Nat → Prop} {a w w' : World} {row : Option Nat} (h : Frm S a w) (hg : w.grownBy w' row) (hr : ∀ k, row = some k → a.heap.size ≤ k ∨ S k) : Frm S a w' :=
  ⟨hg.os.trans h.os, hg.tape.trans h.tape, hg.output.trans h.output, Nat.le_trans h.size hg.size, fun i hi hS => by
    rw [hg.block i (Nat.lt_of_lt_of_le hi h.size) (fun e => by
      rcases hr i e.symm with h1 | h1
      · omega
      · exact hS h1)]
    exact h.block i hi hS⟩

theorem Frm.below {S : Nat → Prop} {w w' : World} (h : Frm S w w') (B : Nat) (hB : B ≤ w.heap.size) (hS : ∀ k, k < B → ¬ S k) : Below B w w' :=
  ⟨h.os, h.tape, h.output, h.size, fun k hk => h.block k (by omega) (hS k hk)⟩

/-- Nothing that was there has turned. -/
def Old (w w' : World) : Prop := Frm (fun _ => False) w w'

theorem Old.refl (w : World) : Old w w := Frm.refl _ _
theorem Old.trans {a b c : World} (h : Old a b) (k : Old b c) : Old a c := Frm.trans h k (fun _ _ h => h)
theorem Old.of_below {w w' : World} (h : Below w.heap.size w w') : Old w w' := ⟨h.os, h.tape, h.output, h.size, fun k hk _ => h.block k hk⟩
theorem Old.below {w w' : World} (h : Old w w') : Below w.heap.size w w' := Frm.below h _ (Nat.le_refl _) (fun _ _ h => h)
theorem Old.drewN {a w : World} (h : Old a w) (n : Nat) : Old a (w.drewN n) := Frm.drewN h n
theorem Old.alloc {a w : World} (h : Old a w) (o : Obj) : Old a (w.alloc o) := Frm.alloc h o

theorem Old.cell {w w' : World} (h : Old w w') {p : Addr} {v : Value} (hc : w.cell? p = some v) : w'.cell? p = some v := by
  have hg : p.block < w.heap.size := by
    by_cases hg : p.block < w.heap.size
    · exact hg
    · simp [World.cell?, hg] at hc
  rw [← hc]
  exact World.cell?_of_block (h.block _ hg (fun h => h))

/-- The slice value over cells that hold the numbers L, of kind k. -/
def NumsC (k : IntKind) (w : World) (ao : Option Addr) (L : List Int) : Prop :=
  ∀ i (h : i < L.length), ∃ g o, ao = some ⟨g, o, none⟩ ∧ w.cell? ⟨g, o + i, none⟩ = some (.int k L[i])

theorem NumsC.old {k : IntKind} {w w' : World} {ao : Option Addr} {L : List Int} (h : NumsC k w ao L) (hf : Old w w') : NumsC k w' ao L := by
  intro i hi
  obtain ⟨g, o, h1, h2⟩ := h i hi
  exact ⟨g, o, h1, hf.cell h2⟩

theorem NumsC.drewN {k : IntKind} {w : World} {ao : Option Addr} {L : List Int} (h : NumsC k w ao L) (n : Nat) : NumsC k (w.drewN n) ao L := h.old ((Old.refl w).drewN n)

/-- A slice of its own: block b of n cells. -/
structure Own (k : IntKind) (t : Nat) (w : World) (b : Nat) (L : List Int) : Prop where
  blk : w.heap[b]? = some (.cells (L.map (Value.int k)).toArray t (0, 0))

theorem Own.lt {k : IntKind} {t : Nat} {w : World} {b : Nat} {L : List Int} (h : Own k t w b L) : b < w.heap.size := (Array.getElem?_eq_some_iff.1 h.blk).1

theorem Own.nums {k : IntKind} {t : Nat} {w : World} {b : Nat} {L : List Int} (h : Own k t w b L) : NumsC k w (some ⟨b, 0, none⟩) L := by
  intro i hi
  refine ⟨b, 0, rfl, ?_⟩
  simp [World.cell?, h.blk, hi]

theorem Own.cell {k : IntKind} {t : Nat} {w : World} {b : Nat} {L : List Int} (h : Own k t w b L) {i : Nat} (hi : i < L.length) : w.cell? ⟨b, i, none⟩ = some (.int k L[i]) ∧ w.frozen? ⟨b, i, none⟩ = false := by
  constructor
  · simp [World.cell?, h.blk, hi]
  · simp [World.frozen?, h.blk]

theorem Own.kept {k : IntKind} {t : Nat} {w w' : World} {b : Nat} {L : List Int} {S : Nat → Prop} (h : Own k t w b L) (hf : Frm S w w') (hb : ¬ S b) : Own k t w' b L :=
  ⟨by rw [hf.block b h.lt hb]; exact h.blk⟩

theorem Own.set {k : IntKind} {t : Nat} {w : World} {b : Nat} {L : List Int} (h : Own k t w b L) (i : Nat) (x : Int) : Own k t (w.setCell ⟨b, i, none⟩ (.int k x)) b (L.set i x) := by
  refine ⟨?_⟩
  simp [World.setCell, Array.getElem?_modify, h.blk, List.map_set]

end Go.Proofs.Ytpnnfkgnkalhlaa

/- sync/atomic's numbers, in the run of one. -/
namespace Go.Proofs.Ytpnnfkgnkalhlaa
open Go.RowKit

theorem load64 {a x : Nat} {v : Int} {w : World} (h : w.cell? ⟨a, x, none⟩ = some (.int .i64 v)) : (callFunc 81 #[.pointer (some ⟨a, x, none⟩)]).run Try.prog w = .ok (.value (.int .i64 v)) w :=
  run_call_load (P := Try.prog) Try.func81 (by kernel_rfl) (by kernel_rfl) (by kernel_rfl) .i64 (by kernel_rfl) h

theorem store64 {a x : Nat} {v y : Int} {w : World} (h : w.cell? ⟨a, x, none⟩ = some (.int .i64 v)) (hz : w.frozen? ⟨a, x, none⟩ = false) : (callFunc 54 #[.pointer (some ⟨a, x, none⟩), .int .i64 y]).run Try.prog w = .ok (.value (.tuple #[])) (w.setCell ⟨a, x, none⟩ (.int .i64 y)) :=
  run_call_store (P := Try.prog) Try.func54 (by kernel_rfl) (by kernel_rfl) (by kernel_rfl) (by kernel_rfl) h hz

theorem cas64 {a x : Nat} {v y : Int} {w : World} (h : w.cell? ⟨a, x, none⟩ = some (.int .i64 v)) (hz : w.frozen? ⟨a, x, none⟩ = false) : (callFunc 84 #[.pointer (some ⟨a, x, none⟩), .int .i64 v, .int .i64 y]).run Try.prog w = .ok (.value (.bool true)) (w.setCell ⟨a, x, none⟩ (.int .i64 y)) :=
  run_call_cas_hit (P := Try.prog) Try.func84 (by kernel_rfl) (by kernel_rfl) (by kernel_rfl) .i64 (by kernel_rfl) h hz

set_option maxRecDepth 100000 in
theorem int64_load (a : Nat) (v : Int) (w : World) (h : w.cell? ⟨a, 0, none⟩ = some (.int .i64 v)) : Calls Try.prog 61 #[.pointer (some ⟨a, 0, none⟩)] w fun e w' => e = .returned (.int .i64 v) ∧ w' = w := by
  have hd := load64 h
  go_enter Try.func61, Try.ntmps61
  go_wp2
  go_ret
  exact ⟨rfl, rfl⟩

set_option maxRecDepth 100000 in
theorem int64_cas (a : Nat) (v y : Int) (w : World) (h : w.cell? ⟨a, 0, none⟩ = some (.int .i64 v)) (hz : w.frozen? ⟨a, 0, none⟩ = false) : Calls Try.prog 70 #[.pointer (some ⟨a, 0, none⟩), .int .i64 v, .int .i64 y] w fun e w' => e = .returned (.bool true) ∧ w' = w.setCell ⟨a, 0, none⟩ (.int .i64 y) := by
  have hd := cas64 (y := y) h hz
  go_enter Try.func70, Try.ntmps70
  go_wp2
  go_ret
  exact ⟨rfl, rfl⟩

set_option maxRecDepth 100000 in
theorem int64_store (a : Nat) (v y : Int) (w : World) (h : w.cell? ⟨a, 0, none⟩ = some (.int .i64 v)) (hz : w.frozen? ⟨a, 0, none⟩ = false) : Calls Try.prog 31 #[.pointer (some ⟨a, 0, none⟩), .int .i64 y] w fun e w' => e = .returned (.tuple #[]) ∧ w' = w.setCell ⟨a, 0, none⟩ (.int .i64 y) := by
  have hd := store64 (y := y) h hz
  go_enter Try.func31, Try.ntmps31
  go_wp2
  go_end0
  exact ⟨rfl, rfl⟩
end Go.Proofs.Ytpnnfkgnkalhlaa

/- A mark: its look and its put. -/
namespace Go.Proofs.Ytpnnfkgnkalhlaa
open Go.RowKit

theorem frm_cell {S : Nat → Prop} {w w' : World} (h : Frm S w w') {p : Addr} {v : Value} (hc : w.cell? p = some v) (hS : ¬ S p.block) : w'.cell? p = some v := by
  have hg := World.block_lt_of_cell? w _ hc
  rw [← hc]
  exact World.cell?_of_block (h.block _ hg hS)
theorem frm_set (w : World) (b o : Nat) (u : Value) : Frm (fun k => k = b) w (w.setCell ⟨b, o, none⟩ u) := Frm.setCell (Frm.refl (fun k => k = b) w) ⟨b, o, none⟩ (Or.inr rfl) u
theorem heap_new (w : World) (o : Obj) : (w.alloc o).heap[w.heap.size]? = some o := World.alloc_heap_new w o
theorem new_cell (w : World) (arr : Array Value) (t : TypeId) (i : Nat) (v : Value) (h : arr[i]? = some v) : (w.alloc (.cells arr t)).cell? ⟨w.heap.size, i, none⟩ = some v := by
  simp only [World.cell?, heap_new]; exact h

theorem set_three {w : World} {s : Nat} {a b c a' b' c' : Value} {t : TypeId} (h : w.heap[s]? = some (.cells #[a, b, c] t (0, 0))) : (((w.setCell ⟨s, 0, none⟩ a').setCell ⟨s, 1, none⟩ b').setCell ⟨s, 2, none⟩ c').heap[s]? = some (.cells #[a', b', c'] t (0, 0)) ∧ Frm (fun k => k = s) w (((w.setCell ⟨s, 0, none⟩ a').setCell ⟨s, 1, none⟩ b').setCell ⟨s, 2, none⟩ c') := by
  refine ⟨by simp [World.setCell, Array.getElem?_modify, h], ?_⟩
  exact Frm.setCell (S := fun k => k = s) (Frm.setCell (S := fun k => k = s) (Frm.setCell (S := fun k => k = s) (Frm.refl _ w) ⟨s, 0, none⟩ (Or.inr rfl) _) ⟨s, 1, none⟩ (Or.inr rfl) _) ⟨s, 2, none⟩ (Or.inr rfl) _

theorem three_cells {w : World} {s : Nat} {a b c : Value} {t : TypeId} (h : w.heap[s]? = some (.cells #[a, b, c] t (0, 0))) : w.cell? ⟨s, 0, none⟩ = some a ∧ w.cell? ⟨s, 1, none⟩ = some b ∧ w.cell? ⟨s, 2, none⟩ = some c ∧ ∀ o, w.frozen? ⟨s, o, none⟩ = false :=
  ⟨by simp [World.cell?, h], by simp [World.cell?, h], by simp [World.cell?, h], fun o => by simp [World.frozen?, h]⟩

/-- What an op is answered. -/
def ans (a : Int) (y : Bool) : Value := .agg #[.int .i64 a, .bool y, .int .i64 0]


set_option maxRecDepth 100000 in
set_option maxHeartbeats 4000000 in
theorem mark_look (bm mb nb bs bx : Nat) (v x s0 : Int) (w : World) (h1 : w.cell? ⟨bm, 0, none⟩ = some (.pointer (some ⟨mb, 0, none⟩))) (h2 : w.cell? ⟨mb, 0, none⟩ = some (.pointer (some ⟨nb, 0, none⟩))) (h3 : w.cell? ⟨nb, 0, none⟩ = some (.int .i64 v)) (h4 : w.cell? ⟨bx, 0, none⟩ = some (.int .i64 x)) (h5 : w.heap[bs]? = some (.cells #[.int .i64 s0] 2 (0, 0))) (hx : bs ≠ bx) :
    Calls Try.prog 68 #[.pointer (some ⟨bm, 0, none⟩), .pointer (some ⟨bs, 0, none⟩), .pointer (some ⟨bx, 0, none⟩)] w fun e w' => e = .returned (.tuple #[ans v false, .bool (decide (x ≤ v))]) ∧ Frm (fun k => k = bs) w w' ∧ w'.heap[bs]? = some (.cells #[.int .i64 v] 2 (0, 0)) := by
  have l1 := World.block_lt_of_cell? w _ h1
  have l2 := World.block_lt_of_cell? w _ h2
  have l3 := World.block_lt_of_cell? w _ h3
  have l4 := World.block_lt_of_cell? w _ h4
  have l5 : bs < w.heap.size := (Array.getElem?_eq_some_iff.1 h5).1
  have c5 : w.cell? ⟨bs, 0, none⟩ = some (.int .i64 s0) := by simp [World.cell?, h5]
  have f5 : w.frozen? ⟨bs, 0, none⟩ = false := by simp [World.frozen?, h5]
  simp only at l1 l2 l3 l4
  have kL := hid (fun W (h : W.cell? ⟨nb, 0, none⟩ = some (.int .i64 v)) => int64_load nb v W h)
  go_enter Try.func68, Try.ntmps68
  go_wp2_with (go_at_call 61; refine (kL.out _ (((Old.refl w).alloc _).cell h3)).mono ?_; rintro e w2 ⟨rfl, rfl⟩)
  have f0 := frm_set w bs 0 (.int .i64 v)
  have hb0 : (w.setCell ⟨bs, 0, none⟩ (.int .i64 v)).heap[bs]? = some (.cells #[.int .i64 v] 2 (0, 0)) := by simp [World.setCell, Array.getElem?_modify, h5]
  have hz0 : (w.setCell ⟨bs, 0, none⟩ (.int .i64 v)).heap.size = w.heap.size := by simp [World.setCell]
  have hx4 := frm_cell f0 h4 (fun e => hx e.symm)
  obtain ⟨w1, e1⟩ : ∃ w1, w.setCell ⟨bs, 0, none⟩ (.int .i64 v) = w1 := ⟨_, rfl⟩
  rw [e1] at f0 hb0 hz0 hx4 ⊢
  have n1 := heap_new w1 (.cells #[.int .i64 0, .bool false, .int .i64 0] 52)
  have o2 : Old w1 (w1.alloc (.cells #[.int .i64 0, .bool false, .int .i64 0] 52)) := (Old.refl w1).alloc _
  have f1 := Frm.trans f0 o2 (fun _ _ h => h.elim)
  have hb1 := (o2.block bs (by omega) (fun h => h)).trans hb0
  have x1 : (w1.alloc (.cells #[.int .i64 0, .bool false, .int .i64 0] 52)).cell? ⟨bs, 0, none⟩ = some (.int .i64 v) := by simp [World.cell?, hb1]
  have x2 := o2.cell hx4
  rw [← hz0] at l4 l5 ⊢
  obtain ⟨w2, e2⟩ : ∃ w2, w1.alloc (.cells #[.int .i64 0, .bool false, .int .i64 0] 52) = w2 := ⟨_, rfl⟩
  rw [e2] at n1 f1 hb1 x1 x2 ⊢
  have kf := hid f1
  have kb := hid hb1
  have kn := hid n1
  have kz := hid hz0
  clear e1 e2 h1 h2 h3 h4 h5 c5 f5 f0 hb0 hx4 o2 f1 hb1 n1 l1 l2 l3 hz0
  generalize w1.heap.size = s at *
  refine wp_region_noPanic ?_
  refine wp_region_held_drew (S := fun X => X.cell? ⟨bs, 0, none⟩ = some (.int .i64 v) ∧ X.cell? ⟨bx, 0, none⟩ = some (.int .i64 x)) (by kernel_rfl) ⟨((Old.refl w2).drewN 1).cell x1, ((Old.refl w2).drewN 1).cell x2⟩ (fun hHeld => ?_)
  obtain ⟨W0, hW0⟩ : ∃ W0, w2.drew = W0 := ⟨_, rfl⟩
  have oW : Hid (Old w2 W0) := by rw [← hW0]; exact (Old.refl w2).drewN 1
  rw [hW0] at hHeld ⊢
  clear hW0 x1 x2
  refine' wpAnyH_take (i := 0) rfl (by kernel_rfl) (by kernel_rfl) (by kernel_rfl) (fun _ _ _ h => h) (Or.inl ⟨by rfl, ?_⟩) hHeld ?_
  rotate_left
  · intro W hSw
    have hSv : W.cell? ⟨bs, 0, none⟩ = some (.int .i64 v) ∧ W.cell? ⟨bx, 0, none⟩ = some (.int .i64 x) := hSw
    clear hSw
    obtain ⟨z1, z2⟩ := hSv
    simp only [List.getElem_toArray, List.getElem_cons_zero]
    go_simp
    all_goals with_reducible rfl
  simp only [List.getElem_toArray, List.getElem_cons_zero, Act.put, List.setIfInBounds_toArray, List.set_cons_zero, List.set_cons_succ]
  refine' wpAnyH_take (i := 1) rfl (by kernel_rfl) (by kernel_rfl) (by kernel_rfl) (fun _ _ _ h => h) (Or.inl ⟨by rfl, ?_⟩) hHeld ?_
  rotate_left
  · intro W hSw
    have hSv : W.cell? ⟨bs, 0, none⟩ = some (.int .i64 v) ∧ W.cell? ⟨bx, 0, none⟩ = some (.int .i64 x) := hSw
    clear hSw
    skip
    simp only [List.getElem_toArray, List.getElem_cons_zero, List.getElem_cons_succ]
    go_simp
    all_goals with_reducible rfl
  simp only [List.getElem_toArray, List.getElem_cons_zero, List.getElem_cons_succ, Act.put, List.setIfInBounds_toArray, List.set_cons_zero, List.set_cons_succ]
  refine' wpAnyH_take (i := 2) rfl (by kernel_rfl) (by kernel_rfl) (by kernel_rfl) (fun _ _ _ h => h) (Or.inl ⟨by rfl, ?_⟩) hHeld ?_
  rotate_left
  · intro W hSw
    have hSv : W.cell? ⟨bs, 0, none⟩ = some (.int .i64 v) ∧ W.cell? ⟨bx, 0, none⟩ = some (.int .i64 x) := hSw
    clear hSw
    obtain ⟨z1, z2⟩ := hSv
    simp only [List.getElem_toArray, List.getElem_cons_zero, List.getElem_cons_succ]
    go_simp
    all_goals with_reducible rfl
  simp only [List.getElem_toArray, List.getElem_cons_zero, List.getElem_cons_succ, Act.put, List.setIfInBounds_toArray, List.set_cons_zero, List.set_cons_succ]
  refine' wpAnyH_take (i := 3) rfl (by kernel_rfl) (by kernel_rfl) (by kernel_rfl) (fun _ _ _ h => h) (Or.inl ⟨by rfl, ?_⟩) hHeld ?_
  rotate_left
  · intro W hSw
    have hSv : W.cell? ⟨bs, 0, none⟩ = some (.int .i64 v) ∧ W.cell? ⟨bx, 0, none⟩ = some (.int .i64 x) := hSw
    clear hSw
    obtain ⟨z1, z2⟩ := hSv
    simp only [List.getElem_toArray, List.getElem_cons_zero, List.getElem_cons_succ]
    go_simp
    all_goals with_reducible rfl
  simp only [List.getElem_toArray, List.getElem_cons_zero, List.getElem_cons_succ, Act.put, List.setIfInBounds_toArray, List.set_cons_zero, List.set_cons_succ]
  refine' wpAnyH_take (i := 4) rfl (by kernel_rfl) (by kernel_rfl) (by kernel_rfl) (fun _ _ _ h => h) (Or.inl ⟨by rfl, ?_⟩) hHeld ?_
  rotate_left
  · intro W hSw
    have hSv : W.cell? ⟨bs, 0, none⟩ = some (.int .i64 v) ∧ W.cell? ⟨bx, 0, none⟩ = some (.int .i64 x) := hSw
    clear hSw
    skip
    simp only [List.getElem_toArray, List.getElem_cons_zero, List.getElem_cons_succ]
    go_simp
    all_goals with_reducible rfl
  simp only [List.getElem_toArray, List.getElem_cons_zero, List.getElem_cons_succ, Act.put, List.setIfInBounds_toArray, List.set_cons_zero, List.set_cons_succ]
  refine wpAnyH_ready (rs := [5]) (by kernel_rfl) (by simp) ?_
  refine AllReadyH.cons (o := _) rfl (fun K hK => ?_) AllReadyH.nil
  simp only [List.getElem_toArray, List.getElem_cons_zero, List.getElem_cons_succ]
  have hn0 : W0.heap[s]? = some (.cells #[.int .i64 0, .bool false, .int .i64 0] 52 (0, 0)) := (oW.out.block s (Array.getElem?_eq_some_iff.1 kn.out).1 (fun h => h)).trans kn.out
  have g0 : W0.cell? ⟨s, 0, none⟩ = some (.int .i64 0) := by simp [World.cell?, hn0]
  have g1 : W0.cell? ⟨s, 1, none⟩ = some (.bool false) := by simp [World.cell?, hn0]
  have g2 : W0.cell? ⟨s, 2, none⟩ = some (.int .i64 0) := by simp [World.cell?, hn0]
  have z0 : ∀ o, W0.frozen? ⟨s, o, none⟩ = false := fun o => by simp [World.frozen?, hn0]
  have z00 := z0 0
  have z01 := z0 1
  have z02 := z0 2
  go_simp
  obtain ⟨hq1, hq2⟩ := set_three (a' := .int .i64 v) (b' := .bool false) (c' := .int .i64 0) hn0
  obtain ⟨W3, e3⟩ : ∃ W3, ((W0.setCell ⟨s, 0, none⟩ (.int .i64 v)).setCell ⟨s, 1, none⟩ (.bool false)).setCell ⟨s, 2, none⟩ (.int .i64 0) = W3 := ⟨_, rfl⟩
  rw [e3] at hq1 hq2 ⊢
  clear e3 g0 g1 g2 z0 z00 z01 z02 hn0
  have kq1 := hid hq1
  have kq2 := hid hq2
  refine hK.out _ _ ⟨frm_cell hq2 hHeld.1 (by simp only; omega), frm_cell hq2 hHeld.2 (by simp only; omega)⟩ (fun hHeld => ?_)
  clear hK K hq1 hq2
  try simp only [Act.put]
  refine' wpAnyH_take (i := 6) rfl (by kernel_rfl) (by kernel_rfl) (by kernel_rfl) (fun _ _ _ h => h) (Or.inl ⟨by rfl, ?_⟩) hHeld ?_
  rotate_left
  · intro W hSw
    have hSv : W.cell? ⟨bs, 0, none⟩ = some (.int .i64 v) ∧ W.cell? ⟨bx, 0, none⟩ = some (.int .i64 x) := hSw
    clear hSw
    skip
    simp only [List.getElem_toArray, List.getElem_cons_zero, List.getElem_cons_succ]
    go_simp
    all_goals with_reducible rfl
  simp only [List.getElem_toArray, List.getElem_cons_zero, List.getElem_cons_succ, Act.put, List.setIfInBounds_toArray, List.set_cons_zero, List.set_cons_succ]
  refine wpAnyH_done (by kernel_rfl) ?_ _
  refine NoPanic.normal ?_
  obtain ⟨p0, p1, p2, _⟩ := three_cells kq1.out
  go_wp2
  refine bodyPost_ret (v := .tuple #[ans v false, .bool (decide (x ≤ v))]) ?_ rfl ⟨rfl, ?_, ?_⟩
  · simp [results, Try.f68, go_sem, p0, p1, p2, ans]
  · refine Frm.trans (Frm.trans kf.out oW.out (fun _ _ h => h.elim)) kq2.out (fun k hk e => ?_)
    have := kz.out
    omega
  · rw [kq2.out.block bs (Nat.lt_of_lt_of_le (Array.getElem?_eq_some_iff.1 kb.out).1 oW.out.size) (by omega), oW.out.block bs (Array.getElem?_eq_some_iff.1 kb.out).1 (fun h => h)]
    exact kb.out
end Go.Proofs.Ytpnnfkgnkalhlaa
