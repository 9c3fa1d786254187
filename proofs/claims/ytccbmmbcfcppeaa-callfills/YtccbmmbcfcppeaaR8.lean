/- Two calls are the same: walked. -/
import Derived.Test.YtccbmmbcfcppeaaR7
namespace Go.Proofs.Ytccbmmbcfcppeaa
open Go.RowKit

set_option maxRecDepth 100000 in
set_option maxHeartbeats 8000000 in
theorem rsame_any (p t l h : Int) (G H : List Int) (bo so bo' so' : Option Addr) (cb cs cb' cs' : Nat) (w : World) (h1 : NumsC .i64 w bo G) (h2 : NumsC .i64 w so H) (h3 : NumsC .i64 w bo' G) (h4 : NumsC .i64 w so' H) (hG : G.length ≤ 1048576) (hH : H.length ≤ 1048576) :
    Calls Try.prog 16 #[calV p t l h bo so G.length cb H.length cs, calV p t l h bo' so' G.length cb' H.length cs'] w fun e w' => e = .returned (.bool true) ∧ Old w w' := by
  unfold calV
  have oA : Old w ((w.alloc (.cells #[.int .i64 p, .int .i64 t, .int .i64 l, .int .i64 h, .slice bo G.length cb, .slice so H.length cs] 28)).alloc (.cells #[.int .i64 p, .int .i64 t, .int .i64 l, .int .i64 h, .slice bo' G.length cb', .slice so' H.length cs'] 28)) := ((Old.refl w).alloc _).alloc _
  have z1 := alloc_size w (.cells #[.int .i64 p, .int .i64 t, .int .i64 l, .int .i64 h, .slice bo G.length cb, .slice so H.length cs] 28)
  have n5 := heap_new w (.cells #[.int .i64 p, .int .i64 t, .int .i64 l, .int .i64 h, .slice bo G.length cb, .slice so H.length cs] 28)
  have n5 := (Below.heap_alloc _ (.cells #[.int .i64 p, .int .i64 t, .int .i64 l, .int .i64 h, .slice bo' G.length cb', .slice so' H.length cs'] 28) _ (blk_lt n5)).trans n5
  have n6 := heap_new (w.alloc (.cells #[.int .i64 p, .int .i64 t, .int .i64 l, .int .i64 h, .slice bo G.length cb, .slice so H.length cs] 28)) (.cells #[.int .i64 p, .int .i64 t, .int .i64 l, .int .i64 h, .slice bo' G.length cb', .slice so' H.length cs'] 28)
  rw [z1] at n6
  have k1 := hid (ints_any bo bo' cb cb' G _ (h1.old oA) (h3.old oA) hG)
  have k2 := hid (h2.old oA)
  have k4 := hid (h4.old oA)
  have ko := hid oA
  clear h1 h2 h3 h4 oA
  have a0 := blk_cells (i := 0) (v := .int .i64 p) n5 rfl
  have a1 := blk_cells (i := 1) (v := .int .i64 t) n5 rfl
  have a2 := blk_cells (i := 2) (v := .int .i64 l) n5 rfl
  have a3 := blk_cells (i := 3) (v := .int .i64 h) n5 rfl
  have a4 := blk_cells (i := 4) (v := .slice bo G.length cb) n5 rfl
  have a5 := blk_cells (i := 5) (v := .slice so H.length cs) n5 rfl
  have b0 := blk_cells (i := 0) (v := .int .i64 p) n6 rfl
  have b1 := blk_cells (i := 1) (v := .int .i64 t) n6 rfl
  have b2 := blk_cells (i := 2) (v := .int .i64 l) n6 rfl
  have b3 := blk_cells (i := 3) (v := .int .i64 h) n6 rfl
  have b4 := blk_cells (i := 4) (v := .slice bo' G.length cb') n6 rfl
  have b5 := blk_cells (i := 5) (v := .slice so' H.length cs') n6 rfl
  clear n5 n6 z1
  go_enter Try.func16, Try.ntmps16
  go_wp2_with fail
  generalize (w.alloc (.cells #[.int .i64 p, .int .i64 t, .int .i64 l, .int .i64 h, .slice bo G.length cb, .slice so H.length cs] 28)).alloc (.cells #[.int .i64 p, .int .i64 t, .int .i64 l, .int .i64 h, .slice bo' G.length cb', .slice so' H.length cs'] 28) = W1 at *
  refine k1.out.mono ?_
  rintro e w2 ⟨rfl, o2⟩
  have k3 := hid (ints_any so so' cs cs' H _ (k2.out.old o2) (k4.out.old o2) hH)
  have a5 := o2.cell a5
  have b5 := o2.cell b5
  have ko := hid (ko.out.trans o2)
  clear o2 k1 k2 k4 a0 a1 a2 a3 a4 b0 b1 b2 b3 b4
  go_wp2_with fail
  refine k3.out.mono ?_
  rintro e w3 ⟨rfl, o3⟩
  have ko := hid (ko.out.trans o3)
  clear o3 k3 a5 b5
  go_wp2_with fail
  go_ret
  exact ⟨rfl, ko.out⟩
end Go.Proofs.Ytccbmmbcfcppeaa
