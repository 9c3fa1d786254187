/- rests: the function over which one ranges. -/
import Derived.Test.YtpbbnbobmcaoiaaDoorPK
namespace Go.Proofs.YtpbbnbobmcaoiaaDoor
open Go.RowKit Go.Lib Go.Shelf
attribute [local go_sem] Oper.semAt_some

set_option maxRecDepth 100000 in
set_option maxHeartbeats 4000000 in
theorem rests_any (kb : Nat) (t : Pt) (w : World) :
    Calls Tryd.prog 60 #[.pointer (some ⟨kb, 0, none⟩), .agg #[.int .i64 t.1, .int .u32 (t.2 : Int)]] w fun e w' => ∃ pb qb, e = .returned (.func (.func 76) #[] #[.pointer (some ⟨pb, 0, none⟩), .pointer (some ⟨qb, 0, none⟩)]) ∧ w.heap.size ≤ pb ∧ w.heap.size ≤ qb ∧ w'.cell? ⟨pb, 0, none⟩ = some (.int .i64 t.1) ∧ w'.cell? ⟨pb, 1, none⟩ = some (.int .u32 (t.2 : Int)) ∧ w'.cell? ⟨qb, 0, none⟩ = some (.pointer (some ⟨kb, 0, none⟩)) ∧ Old w w' := by
  have oA : Old w ((w.alloc (.cells #[.pointer (some ⟨kb, 0, none⟩)] 71)).alloc (.cells #[.int .i64 t.1, .int .u32 (t.2 : Int)] 79)) := ((Old.refl w).alloc _).alloc _
  have z1 := alloc_size w (.cells #[.pointer (some ⟨kb, 0, none⟩)] 71)
  have n5 := heap_new w (.cells #[.pointer (some ⟨kb, 0, none⟩)] 71)
  have n5 := (Below.heap_alloc _ (.cells #[.int .i64 t.1, .int .u32 (t.2 : Int)] 79) _ (blk_lt n5)).trans n5
  have n6 := heap_new (w.alloc (.cells #[.pointer (some ⟨kb, 0, none⟩)] 71)) (.cells #[.int .i64 t.1, .int .u32 (t.2 : Int)] 79)
  rw [z1] at n6
  have v2 := hid (blk_cells (i := 0) (v := .pointer (some ⟨kb, 0, none⟩)) n5 rfl)
  have v3 := hid (blk_cells (i := 0) (v := .int .i64 t.1) n6 rfl)
  have v9 := hid (blk_cells (i := 1) (v := .int .u32 (t.2 : Int)) n6 rfl)
  have ko := hid oA
  clear oA n5 n6 z1
  go_enter Tryd.func60, Tryd.ntmps60
  go_wp2_with fail
  go_ret
  exact ⟨w.heap.size + 1, w.heap.size, rfl, by omega, by omega, v3.out, v9.out, v2.out, ko.out⟩
end Go.Proofs.YtpbbnbobmcaoiaaDoor
