/- small, one, num: walked. -/
import Derived.Test.YtpbbnbobmcaoiaaDoorPQ
import Derived.Test.YtpbbnbobmcaoiaaDoorPR
namespace Go.Proofs.YtpbbnbobmcaoiaaDoor
open Go.RowKit Go.Lib Go.Shelf
attribute [local go_sem] Oper.semAt_some

def smB : Ins := [[(1, 5), (3, 9)], [(2, 4)]]
set_option maxRecDepth 100000 in
set_option maxHeartbeats 16000000 in
theorem small_any (w : World) : Calls Tryd.prog 29 #[] w fun e w' => ∃ b : Nat, e = .returned (.agg #[.int .i64 2, .slice (some ⟨b, 0, none⟩) 2 2]) ∧ InsC w' (some ⟨b, 0, none⟩) smB ∧ w.heap.size ≤ b ∧ Old w w' := by
  go_enter Tryd.func29, Tryd.ntmps29
  go_wp2_with fail
  obtain ⟨s, hs⟩ : ∃ s, w.heap.size = s := ⟨_, rfl⟩
  rw [hs]
  have o1 : Old w (w.alloc (.cells #[.int .i64 2, .slice (some ⟨s + 1 + 1 + 1, 0, none⟩) 2 2] 24)) := (Old.refl w).alloc _
  have h1 := heap_new w (.cells #[.int .i64 2, .slice (some ⟨s + 1 + 1 + 1, 0, none⟩) 2 2] 24)
  have z1 := alloc_size w (.cells #[.int .i64 2, .slice (some ⟨s + 1 + 1 + 1, 0, none⟩) 2 2] 24)
  generalize w.alloc (.cells #[.int .i64 2, .slice (some ⟨s + 1 + 1 + 1, 0, none⟩) 2 2] 24) = w1 at *
  have o2 : Old w1 (w1.alloc (.cells #[.int .u32 1, .int .i64 5, .int .u32 3, .int .i64 9] 66)) := (Old.refl w1).alloc _
  have h2 := heap_new w1 (.cells #[.int .u32 1, .int .i64 5, .int .u32 3, .int .i64 9] 66)
  have z2 := alloc_size w1 (.cells #[.int .u32 1, .int .i64 5, .int .u32 3, .int .i64 9] 66)
  generalize w1.alloc (.cells #[.int .u32 1, .int .i64 5, .int .u32 3, .int .i64 9] 66) = w2 at *
  have o3 : Old w2 (w2.alloc (.cells #[.int .u32 2, .int .i64 4] 66)) := (Old.refl w2).alloc _
  have h3 := heap_new w2 (.cells #[.int .u32 2, .int .i64 4] 66)
  have z3 := alloc_size w2 (.cells #[.int .u32 2, .int .i64 4] 66)
  generalize w2.alloc (.cells #[.int .u32 2, .int .i64 4] 66) = w3 at *
  have o4 : Old w3 (w3.alloc (.cells #[.slice (some ⟨s + 1, 0, none⟩) 2 2, .slice (some ⟨s + 1 + 1, 0, none⟩) 1 1] 67)) := (Old.refl w3).alloc _
  have h4 := heap_new w3 (.cells #[.slice (some ⟨s + 1, 0, none⟩) 2 2, .slice (some ⟨s + 1 + 1, 0, none⟩) 1 1] 67)
  generalize w3.alloc (.cells #[.slice (some ⟨s + 1, 0, none⟩) 2 2, .slice (some ⟨s + 1 + 1, 0, none⟩) 1 1] 67) = w4 at *
  rw [z3, z2, z1, hs] at h4
  rw [z2, z1, hs] at h3
  rw [z1, hs] at h2
  rw [hs] at h1
  have oA := (o2.trans o3).trans o4
  have r0 := oA.cell (blk_cells (i := 0) h1 rfl)
  have r1 := oA.cell (blk_cells (i := 1) h1 rfl)
  have f1 : OffC w4 (some ⟨s + 1, 0, none⟩) [(1, 5), (3, 9)] := OffC.old (w := w2) (fun i hi => match i, hi with
    | 0, _ => ⟨s + 1, 0, rfl, blk_cells (i := 0) h2 rfl, blk_cells (i := 1) h2 rfl⟩
    | 1, _ => ⟨s + 1, 0, rfl, blk_cells (i := 2) h2 rfl, blk_cells (i := 3) h2 rfl⟩) (o3.trans o4)
  have f2 : OffC w4 (some ⟨s + 1 + 1, 0, none⟩) [(2, 4)] := OffC.old (w := w3) (fun i hi => match i, hi with
    | 0, _ => ⟨s + 1 + 1, 0, rfl, blk_cells (i := 0) h3 rfl, blk_cells (i := 1) h3 rfl⟩) o4
  refine bodyPost_ret (v := .agg #[.int .i64 2, .slice (some ⟨s + 1 + 1 + 1, 0, none⟩) 2 2]) (by simp [results, Tryd.results29, go_sem, r0, r1]) rfl ?_
  refine ⟨s + 1 + 1 + 1, rfl, fun i hi => ?_, by omega, o1.trans oA⟩
  match i, hi with
  | 0, _ => exact ⟨s + 1 + 1 + 1, 0, some ⟨s + 1, 0, none⟩, 2, rfl, blk_cells h4 rfl, f1, (by show ([(1, 5), (3, 9)] : List Off).length ≤ 9223372036854775807; decide), (by show ∀ x ∈ ([(1, 5), (3, 9)] : List Off), x.1 < 4294967296; decide)⟩
  | 1, _ => exact ⟨s + 1 + 1 + 1, 0, some ⟨s + 1 + 1, 0, none⟩, 1, rfl, blk_cells h4 rfl, f2, (by show ([(2, 4)] : List Off).length ≤ 9223372036854775807; decide), (by show ∀ x ∈ ([(2, 4)] : List Off), x.1 < 4294967296; decide)⟩

def onP (m : Int) : List Cl := [⟨0, 3, m, [5, 4]⟩]
/-- The one claim in its block. -/
structure OneC (w : World) (b n : Nat) (m : Int) : Prop where
  blk : w.heap[b]? = some (.cells #[.int .i64 0, .int .u32 3, .int .i64 m, .slice (some ⟨n, 0, none⟩) 2 2] 48 (0, 0))
  num : w.heap[n]? = some (.cells #[.int .i64 5, .int .i64 4] 2 (0, 0))
  lt : n < b
theorem OneC.old {w w' : World} {b n : Nat} {m : Int} (h : OneC w b n m) (o : Old w w') : OneC w' b n m := ⟨(o.block b (blk_lt h.blk) (fun e => e)).trans h.blk, (o.block n (blk_lt h.num) (fun e => e)).trans h.num, h.lt⟩
theorem OneC.nums {w : World} {b n : Nat} {m : Int} (h : OneC w b n m) : NumsC .i64 w (some ⟨n, 0, none⟩) [5, 4] := fun i hi => match i, hi with
  | 0, _ => ⟨n, 0, rfl, blk_cells (i := 0) h.num rfl⟩
  | 1, _ => ⟨n, 0, rfl, blk_cells (i := 1) h.num rfl⟩
theorem OneC.cl {w : World} {b n : Nat} {m : Int} (h : OneC w b n m) : ClC w (some ⟨b, 0, none⟩) (onP m) := fun i hi => match i, hi with
  | 0, _ => ⟨b, 0, some ⟨n, 0, none⟩, 2, rfl, blk_cells (i := 0) h.blk rfl, blk_cells (i := 1) h.blk rfl, blk_cells (i := 2) h.blk rfl, blk_cells (i := 3) h.blk rfl, h.nums, by show (3 : Nat) < 4294967296; decide, by show ([5, 4] : List Int).length ≤ _; decide, fun e => by cases e⟩
set_option maxRecDepth 100000 in
set_option maxHeartbeats 16000000 in
theorem one_any (w : World) : Calls Tryd.prog 30 #[] w fun e w' => ∃ b n : Nat, e = .returned (.agg #[.slice (some ⟨b, 0, none⟩) 1 1]) ∧ OneC w' b n 9 ∧ w.heap.size ≤ n ∧ Old w w' := by
  go_enter Tryd.func30, Tryd.ntmps30
  go_wp2_with fail
  obtain ⟨s, hs⟩ : ∃ s, w.heap.size = s := ⟨_, rfl⟩
  rw [hs]
  have o1 : Old w (w.alloc (.cells #[.slice (some ⟨s + 1 + 1, 0, none⟩) 1 1] 27)) := (Old.refl w).alloc _
  have h1 := heap_new w (.cells #[.slice (some ⟨s + 1 + 1, 0, none⟩) 1 1] 27)
  have z1 := alloc_size w (.cells #[.slice (some ⟨s + 1 + 1, 0, none⟩) 1 1] 27)
  generalize w.alloc (.cells #[.slice (some ⟨s + 1 + 1, 0, none⟩) 1 1] 27) = w1 at *
  have o2 : Old w1 (w1.alloc (.cells #[.int .i64 5, .int .i64 4] 2)) := (Old.refl w1).alloc _
  have h2 := heap_new w1 (.cells #[.int .i64 5, .int .i64 4] 2)
  have z2 := alloc_size w1 (.cells #[.int .i64 5, .int .i64 4] 2)
  generalize w1.alloc (.cells #[.int .i64 5, .int .i64 4] 2) = w2 at *
  have o3 : Old w2 (w2.alloc (.cells #[.int .i64 0, .int .u32 3, .int .i64 9, .slice (some ⟨s + 1, 0, none⟩) 2 2] 48)) := (Old.refl w2).alloc _
  have h3 := heap_new w2 (.cells #[.int .i64 0, .int .u32 3, .int .i64 9, .slice (some ⟨s + 1, 0, none⟩) 2 2] 48)
  generalize w2.alloc (.cells #[.int .i64 0, .int .u32 3, .int .i64 9, .slice (some ⟨s + 1, 0, none⟩) 2 2] 48) = w3 at *
  rw [z2, z1, hs] at h3
  rw [z1, hs] at h2
  rw [hs] at h1
  have oA := o2.trans o3
  have r0 := oA.cell (blk_cells (i := 0) h1 rfl)
  refine bodyPost_ret (v := .agg #[.slice (some ⟨s + 1 + 1, 0, none⟩) 1 1]) (by simp [results, Tryd.results30, go_sem, r0]) rfl ?_
  exact ⟨s + 1 + 1, s + 1, rfl, ⟨h3, (o3.block _ (blk_lt h2) (fun e => e)).trans h2, by omega⟩, by omega, o1.trans oA⟩

set_option maxRecDepth 100000 in
theorem num16_any (e : Int) (w : World) : Calls Tryd.prog 14 #[.int .i64 e] w fun x w' => x = .returned (.int .i64 e) ∧ w' = w := by
  go_enter Tryd.func14, Tryd.ntmps14
  go_wp2
  go_ret
  exact ⟨rfl, rfl⟩

theorem kn_ck : pckZ 2 smB (onP 9) = (9, 0, 0) := by decide +kernel
theorem kn_bad : pckZ 2 smB (onP 8) = (0, 0, 261) := by decide +kernel
theorem kn_bd : pbdZ 2 smB 1 2 [0, 1] = (4, 0) := by decide +kernel
theorem kn_fd : pfdZ (onP 9) (0, 3) = (0, true) := by decide +kernel
theorem kn_rg : prgZ 2 smB (onP 9) 0 = true := by decide +kernel
theorem kn_b1 : pbsZ 2 smB (onP 9) [0, 0] = 0 := by decide +kernel
theorem kn_b2 : pbsZ 2 smB (onP 9) [0, -1] = 262 := by decide +kernel
theorem kn_b3 : pbsZ 2 smB (onP 9) [1, 0] = 170 := by decide +kernel
end Go.Proofs.YtpbbnbobmcaoiaaDoor
