/- LedgerNil walked. -/
import Derived.Test.YtlhlmkdgbgppiaaL14
namespace Go.Proofs.Ytlhlmkdgbgppiaa
open Go.RowKit Go.Lib Go.Shelf Go.Maps


set_option maxRecDepth 100000 in
set_option maxHeartbeats 8000000 in
theorem nil_walk (s : ByteArray) (n : Int) (w : World) : Calls Try.prog 5 #[.string s, .int .i64 n] w fun e w' => e = .returned (.bool true) ∧ Old w w' := by
  go_enter Try.func5, Try.ntmps5
  go_wp2_with fail
  refine (lnew_any w).mono ?_
  rintro e w1 ⟨rfl, o1, h1, z1⟩
  have kM := hid (fun W (o : Old w1 W) => made_some _ _ W (h1.old o).c0)
  have ko := hid o1
  unfold Lx.ptr
  clear h1 z1 o1
  generalize (Lx.fresh w.heap.size).lb = lb at *
  generalize (Lx.fresh w.heap.size).ib = ib at *
  go_wp2_with fail
  refine (same_no none none false false w1 (made_nil w1) (made_nil w1) rfl).mono ?_
  rintro e w' ⟨rfl, e2⟩
  rw [e2]
  clear e2
  go_wp2_with fail
  have oz : Old w1 (w1.alloc (.cells #[.pointer none] 58)) := (Old.refl w1).alloc _
  have cz := new_cell w1 #[.pointer none] 58 0 _ rfl
  have ko2 := hid (ko.out.trans oz)
  have kMz := hid (made_zero w1.heap.size _ cz)
  have kM2 := hid (kM.out _ oz)
  have kM3 := hid (fun W (o : Old (w1.alloc (.cells #[.pointer none] 58)) W) => kM.out W (oz.trans o))
  clear oz cz ko kM
  generalize w1.alloc (.cells #[.pointer none] 58) = w2 at *
  generalize w1.heap.size = bz at *
  go_wp2_with fail
  refine (same_no none (some ⟨bz, 0, none⟩) false false w2 (made_nil w2) kMz.out rfl).mono ?_
  rintro e w' ⟨rfl, e2⟩
  rw [e2]
  clear e2
  go_wp2_with fail
  refine (same_no none (some ⟨lb, 0, none⟩) false true w2 (made_nil w2) kM2.out rfl).mono ?_
  rintro e w' ⟨rfl, e2⟩
  rw [e2]
  clear e2
  go_wp2_with fail
  refine (same_no (some ⟨lb, 0, none⟩) none true false w2 kM2.out (made_nil w2) rfl).mono ?_
  rintro e w' ⟨rfl, e2⟩
  rw [e2]
  clear e2
  go_wp2_with fail
  refine (nothing_any none s n w2 (NM.nil w2)).mono ?_
  rintro e w3 ⟨rfl, o3⟩
  have oz : Old w3 (w3.alloc (.cells #[.pointer none] 58)) := (Old.refl w3).alloc _
  have cz := new_cell w3 #[.pointer none] 58 0 _ rfl
  have ko3 := hid ((ko2.out.trans o3).trans oz)
  have kz := hid (NM.zero cz)
  clear oz cz o3 ko2
  go_wp2_with fail
  refine (nothing_any (some ⟨w3.heap.size, 0, none⟩) s n _ kz.out).mono ?_
  rintro e w5 ⟨rfl, o5⟩
  have ko4 := hid (ko3.out.trans o5)
  clear o5
  go_wp2_with fail
  refine (lknown_any w5).mono ?_
  rintro e w6 ⟨rfl, o6⟩
  have ko5 := hid (ko4.out.trans o6)
  clear o6
  go_wp2_with fail
  go_ret
  exact ⟨rfl, ko5.out⟩
end Go.Proofs.Ytlhlmkdgbgppiaa
