/- The places by their rests. -/
import Derived.Test.YtocpbnjkijpbiaaDoorE3

import Derived.Test.YtocpbnjkijpbiaaDoorShelf
import Derived.Laws.MakeOwn
namespace Go.Proofs.YtocpbnjkijpbiaaDoor
open Go.RowKit Go.Lib Go.Sort

theorem made_ints (k : IntKind) (n : Nat) : madeCells (Value.int k 0).cells n = Array.replicate n (Value.int k 0) := by
  unfold madeCells
  apply Array.ext
  · simp
  · intro i h1 h2
    simp [Value.cells, Nat.mod_one]

theorem info_i64 : (Tryd.prog.info? 2).map (fun i => (i.zero, i.bytes, i.size)) = some (some (.int .i64 0), 8, 1) := by kernel_rfl
theorem make_i64 (n : Nat) (hn : n ≤ 1048576) (w : World) : (Instr.makeSlice 22 (.int .i64 (n : Int)) (.int .i64 (n : Int))).run Tryd.prog w = .ok (.slice (some ⟨w.heap.size, 0, none⟩) n n) (w.alloc (.cells (Array.replicate n (Value.int .i64 0)) 2)) := by
  obtain ⟨i, hi, h2⟩ := Option.map_eq_some_iff.1 info_i64
  simp only [Prod.mk.injEq] at h2
  obtain ⟨hz, hb, hs⟩ := h2
  have h := run_make (P := Tryd.prog) w 22 2 i (.int .i64 0) Tryd.underlying22 hi hz .i64 .i64 n n (by omega) (by omega) (by rw [hb]; omega) (by omega)
  rw [h, hs]
  simp only [Int.toNat_natCast, Nat.mul_one, made_ints]

theorem info_u64 : (Tryd.prog.info? 48).map (fun i => (i.zero, i.bytes, i.size)) = some (some (.int .u64 0), 8, 1) := by kernel_rfl
theorem make_u64 (n : Nat) (hn : n ≤ 1048576) (w : World) : (Instr.makeSlice 47 (.int .i64 (n : Int)) (.int .i64 (n : Int))).run Tryd.prog w = .ok (.slice (some ⟨w.heap.size, 0, none⟩) n n) (w.alloc (.cells (Array.replicate n (Value.int .u64 0)) 48)) := by
  obtain ⟨i, hi, h2⟩ := Option.map_eq_some_iff.1 info_u64
  simp only [Prod.mk.injEq] at h2
  obtain ⟨hz, hb, hs⟩ := h2
  have h := run_make (P := Tryd.prog) w 47 48 i (.int .u64 0) Tryd.underlying47 hi hz .i64 .i64 n n (by omega) (by omega) (by rw [hb]; omega) (by omega)
  rw [h, hs]
  simp only [Int.toNat_natCast, Nat.mul_one, made_ints]

theorem info_int : (Tryd.prog.info? 3).map (fun i => (i.zero, i.bytes, i.size)) = some (some (.int .i64 0), 8, 1) := by kernel_rfl
theorem make_int (n : Nat) (hn : n ≤ 1048576) (w : World) : (Instr.makeSlice 51 (.int .i64 (n : Int)) (.int .i64 (n : Int))).run Tryd.prog w = .ok (.slice (some ⟨w.heap.size, 0, none⟩) n n) (w.alloc (.cells (Array.replicate n (Value.int .i64 0)) 3)) := by
  obtain ⟨i, hi, h2⟩ := Option.map_eq_some_iff.1 info_int
  simp only [Prod.mk.injEq] at h2
  obtain ⟨hz, hb, hs⟩ := h2
  have h := run_make (P := Tryd.prog) w 51 3 i (.int .i64 0) Tryd.underlying51 hi hz .i64 .i64 n n (by omega) (by omega) (by rw [hb]; omega) (by omega)
  rw [h, hs]
  simp only [Int.toNat_natCast, Nat.mul_one, made_ints]

end Go.Proofs.YtocpbnjkijpbiaaDoor
