/- CallFair: walked. -/
import Derived.Test.YtdeakckdnkdalaaF1
import Derived.Test.YtdeakckdnkdalaaM4
import Derived.Deep.CutRange
namespace Go.Proofs.Ytdeakckdnkdalaa
open Go.RowKit Go.Lib Go.Shelf
attribute [local go_sem] Oper.semAt_some


/-- Where CallFair stands. -/
structure FaI (w : World) (s cl bb sb : Nat) (L M : List Wt) (p t lo hi : Int) (Y : World) : Prop where
  res : Y.heap[s]? = some (.cells #[.bool false] 4 (0, 0))
  cal : Y.heap[cl]? = some (.cells #[.int .i64 p, .int .i64 t, .int .i64 lo, .int .i64 hi, .slice (some ⟨bb, 0, none⟩) L.length L.length, .slice (some ⟨sb, 0, none⟩) M.length M.length] 28 (0, 0))
  b : Own .i64 3 Y bb (dl L.length (gotB (fls L M)))
  sl : Own .i64 3 Y sb (dl M.length (gotS (fls L M)))
  old : Old w Y
  hs : w.heap.size = s
theorem FaI.olds {w : World} {s cl bb sb : Nat} {L M : List Wt} {p t lo hi : Int} {X Y : World} (h : FaI w s cl bb sb L M p t lo hi X) (o : Old X Y) : FaI w s cl bb sb L M p t lo hi Y :=
  ⟨blk_frm h.res o (fun h => h), blk_frm h.cal o (fun h => h), h.b.kept o (fun h => h), h.sl.kept o (fun h => h), h.old.trans o, h.hs⟩

set_option maxRecDepth 100000 in
set_option maxHeartbeats 4000000 in
theorem fair_great (ao bo : Option Addr) (ca cb : Nat) (L M : List Wt) (w : World) (h1 : L.length ≤ 9223372036854775807) (h2 : M.length ≤ 9223372036854775807) (hg : grB L = true ∨ grB M = true) :
    Calls Try.prog 5 #[.slice ao L.length ca, .slice bo M.length cb] w fun e w' => e = .returned (.bool true) ∧ Old w w' := by
  have oA : Old w (w.alloc (.cells #[.bool false] 4)) := (Old.refl w).alloc _
  have n0 := heap_new w (.cells #[.bool false] 4)
  have kK := hid (known_any (w.alloc (.cells #[.bool false] 4)))
  have kG := hid (fun w => great_any ao ca L w h1)
  have kH := hid (fun w => great_any bo cb M w h2)
  have ks := hid (show w.heap.size = w.heap.size from rfl)
  have koA := hid oA
  clear oA
  cases hgl : grB L
  · have hgm : grB M = true := by rw [hgl] at hg; simpa using hg
    rw [hgl] at kG
    rw [hgm] at kH
    clear hg hgl hgm
    go_enter Try.func5, Try.ntmps5
    go_wp2_with fail
    generalize w.alloc (.cells #[.bool false] 4) = W1 at *
    obtain ⟨s, hs⟩ : ∃ s, w.heap.size = s := ⟨_, rfl⟩
    rw [hs] at n0
    simp only [hs]
    refine kK.out.mono ?_
    rintro e w2 ⟨rfl, o2⟩
    have n0 := blk_frm n0 o2 (fun h => h)
    have r0 := blk_cell n0
    have rf := blk_fz n0 0
    have ko := hid (koA.out.trans o2)
    have khs := hid hs
    clear kK o2 koA hs
    go_wp2_with fail
    refine (kG.out _).mono ?_
    rintro e w' ⟨rfl, e2⟩
    rw [e2]
    clear e2
    go_wp2_with fail
    refine (kH.out _).mono ?_
    rintro e w' ⟨rfl, e2⟩
    rw [e2]
    clear e2
    go_wp2_with fail
    have e0 := set_same (u := .bool true) r0
    refine bodyPost_ret (v := .bool true) (by simp [results, Try.results5, go_sem, e0]) rfl ⟨rfl, ?_⟩
    exact Frm.trans ko.out (frm_set w2 s 0 _) (fun i hi e => by have := khs.out; omega)
  · rw [hgl] at kG
    clear hg hgl
    go_enter Try.func5, Try.ntmps5
    go_wp2_with fail
    generalize w.alloc (.cells #[.bool false] 4) = W1 at *
    obtain ⟨s, hs⟩ : ∃ s, w.heap.size = s := ⟨_, rfl⟩
    rw [hs] at n0
    simp only [hs]
    refine kK.out.mono ?_
    rintro e w2 ⟨rfl, o2⟩
    have n0 := blk_frm n0 o2 (fun h => h)
    have r0 := blk_cell n0
    have rf := blk_fz n0 0
    have ko := hid (koA.out.trans o2)
    have khs := hid hs
    clear kK o2 koA hs
    go_wp2_with fail
    refine (kG.out _).mono ?_
    rintro e w' ⟨rfl, e2⟩
    rw [e2]
    clear e2
    go_wp2_with fail
    have e0 := set_same (u := .bool true) r0
    refine bodyPost_ret (v := .bool true) (by simp [results, Try.results5, go_sem, e0]) rfl ⟨rfl, ?_⟩
    exact Frm.trans ko.out (frm_set w2 s 0 _) (fun i hi e => by have := khs.out; omega)

set_option maxRecDepth 100000 in
set_option maxHeartbeats 4000000 in
theorem fair_bad (ao bo : Option Addr) (ca cb : Nat) (L M : List Wt) (w : World) (hL : WC w ao L) (hM : WC w bo M) (h1 : L.length ≤ 9223372036854775807) (h2 : M.length ≤ 9223372036854775807) (hgl : grB L = false) (hgm : grB M = false) (hc : chZ L M ≠ 0) :
    Calls Try.prog 5 #[.slice ao L.length ca, .slice bo M.length cb] w fun e w' => e = .returned (.bool true) ∧ Old w w' := by
  have oA : Old w (w.alloc (.cells #[.bool false] 4)) := (Old.refl w).alloc _
  have n0 := heap_new w (.cells #[.bool false] 4)
  have kK := hid (known_any (w.alloc (.cells #[.bool false] 4)))
  have kG := hid (fun w => great_any ao ca L w h1)
  have kH := hid (fun w => great_any bo cb M w h2)
  rw [hgl] at kG
  rw [hgm] at kH
  have kL := hid (hL.old oA)
  have kM := hid (hM.old oA)
  have kC := hid (fun w hL hM => clear_bad ao bo ca cb L M w hL hM h1 h2 hc)
  have kN := hid num_any
  have koA := hid oA
  obtain ⟨z, hzz⟩ : ∃ z, chZ L M = z := ⟨_, rfl⟩
  rw [hzz] at hc kC
  have hz' : (z != 0) = true := by simpa using hc
  clear oA hL hM hgl hgm hzz
  go_enter Try.func5, Try.ntmps5
  go_wp2_with fail
  generalize w.alloc (.cells #[.bool false] 4) = W1 at *
  obtain ⟨s, hs⟩ : ∃ s, w.heap.size = s := ⟨_, rfl⟩
  rw [hs] at n0
  simp only [hs]
  have khs := hid hs
  refine kK.out.mono ?_
  rintro e w2 ⟨rfl, o2⟩
  have n0 := blk_frm n0 o2 (fun h => h)
  have ko := hid (koA.out.trans o2)
  have kc := hid (kC.out w2 (kL.out.old o2) (kM.out.old o2))
  unfold calV at kc
  clear kK o2 koA hs kC kL kM
  go_wp2_with fail
  refine (kG.out _).mono ?_
  rintro e w' ⟨rfl, e2⟩
  rw [e2]
  clear e2
  go_wp2_with fail
  refine (kH.out _).mono ?_
  rintro e w' ⟨rfl, e2⟩
  rw [e2]
  clear e2
  go_wp2_with fail
  refine kc.out.mono ?_
  rintro e w3 ⟨rfl, o3⟩
  have n0 := blk_frm n0 o3 (fun h => h)
  have ko := hid (ko.out.trans o3)
  have oB : Old w3 (w3.alloc (.cells #[.int .i64 0, .int .i64 0, .int .i64 0, .int .i64 0, .slice none 0 0, .slice none 0 0] 28)) := (Old.refl w3).alloc _
  have kb := heap_new w3 (.cells #[.int .i64 0, .int .i64 0, .int .i64 0, .int .i64 0, .slice none 0 0, .slice none 0 0] 28)
  have n0 := blk_frm n0 oB (fun h => h)
  have ko := hid (ko.out.trans oB)
  have r0 := blk_cell n0
  have rf := blk_fz n0 0
  have x0 := blk_cells (i := 0) (v := .int .i64 0) kb rfl
  have x1 := blk_cells (i := 1) (v := .int .i64 0) kb rfl
  have x4 := blk_cells (i := 4) (v := .slice none 0 0) kb rfl
  have x5 := blk_cells (i := 5) (v := .slice none 0 0) kb rfl
  clear o3 oB kb kc
  go_wp2_with (go_at_call 17; refine (kN.out _ _).mono ?_; rintro e w' ⟨rfl, e2⟩; rw [e2]; clear e2)
  generalize w3.alloc (.cells #[.int .i64 0, .int .i64 0, .int .i64 0, .int .i64 0, .slice none 0 0, .slice none 0 0] 28) = W4 at *
  have e0 := set_same (u := .bool true) r0
  refine bodyPost_ret (v := .bool true) (by simp [results, Try.results5, go_sem, e0]) rfl ⟨rfl, ?_⟩
  exact Frm.trans ko.out (frm_set W4 s 0 _) (fun i hi e => by have := khs.out; omega)
end Go.Proofs.Ytdeakckdnkdalaa
