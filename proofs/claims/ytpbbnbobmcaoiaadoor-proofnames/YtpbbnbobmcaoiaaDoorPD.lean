/- What a proof leans on: an instance that may be, a part, prices: walked. -/
import Derived.Test.YtpbbnbobmcaoiaaDoorPC
namespace Go.Proofs.YtpbbnbobmcaoiaaDoor
open Go.RowKit Go.Lib Go.Shelf

theorem noprice_any (v : Int) (w : World) : Calls Tryd.prog 72 #[.int .i64 v] w fun e w' => e = .returned (.bool (wrB v)) ∧ w' = w := isNoPrice_any v w
set_option maxRecDepth 100000 in
set_option maxHeartbeats 4000000 in
theorem indexN_any (po : Option Addr) (cap : Nat) (P : List Int) (w : World) (h : NumsC .i64 w po P) (hl : P.length ≤ 9223372036854775807) :
    Calls Tryd.prog 86 #[.slice po P.length cap, .func (.func 72) #[] #[]] w fun e w' => e = .returned (.int .i64 (wrI P 0)) ∧ w' = w := by
  have kO := hid h
  clear h
  go_enter Tryd.func86, Tryd.ntmps86
  go_wp2_with fail
  go_loopw [8] (fun t wr => ∃ k : Nat, k ≤ P.length ∧ t = .int .i64 (k : Int) ∧ Hid (wrI P 0 = wrI (P.drop k) k) ∧ wr = w) (fun t _ => P.length - (intOf t).toNat)
  case atStart => exact ⟨0, Nat.zero_le _, rfl, rfl, by trivial⟩
  case round =>
    obtain ⟨k, hk, rfl, hA, hwr⟩ := hrel
    obtain rfl := hwr.symm
    by_cases hlt : k < P.length
    · obtain ⟨g, o, rfl, ck⟩ := kO.out k hlt
      have hk' : (k : Int) < (P.length : Int) := by omega
      have hdr : Hid (P.drop k = P[k] :: P.drop (k + 1)) := List.drop_eq_getElem_cons hlt
      obtain ⟨v, hv⟩ : ∃ v, P[k] = v := ⟨_, rfl⟩
      rw [hv] at ck hdr
      clear hv
      have kL := hid (noprice_any v w)
      cases h8 : wrB v
      · rw [h8] at kL
        have kz : Hid (wrI P 0 = wrI (P.drop (k + 1)) (k + 1)) := by
          show _ = _
          rw [hA.out, hdr.out, wrI, if_neg (by simp [h8])]
        go_wp2_with fail
        refine kL.out.mono ?_
        rintro e w' ⟨rfl, e2⟩
        rw [e2]
        clear e2
        go_wp2_with fail
        go_roundw
        case rel => exact ⟨k + 1, by omega, by go_num, kz, by trivial⟩
        case measure => simp [intOf]; omega
      · rw [h8] at kL
        have kz : Hid (wrI P 0 = (k : Int)) := by
          show _ = _
          rw [hA.out, hdr.out, wrI, if_pos h8]
        go_wp2_with fail
        refine kL.out.mono ?_
        rintro e w' ⟨rfl, e2⟩
        rw [e2]
        clear e2
        go_wp2_with fail
        go_ret
        exact ⟨by rw [kz.out]; rfl, rfl⟩
    · obtain rfl : k = P.length := by omega
      have kz : Hid (wrI P 0 = -1) := by
        show _ = _
        rw [hA.out, List.drop_length, wrI]
      go_wp2_with fail
      go_ret
      exact ⟨by rw [kz.out]; rfl, rfl⟩

set_option maxRecDepth 100000 in
theorem containsN_any (po : Option Addr) (cap : Nat) (P : List Int) (w : World) (h : NumsC .i64 w po P) (hl : P.length ≤ 9223372036854775807) :
    Calls Tryd.prog 71 #[.slice po P.length cap, .func (.func 72) #[] #[]] w fun e w' => e = .returned (.bool (P.any wrB)) ∧ w' = w := by
  have k := hid (indexN_any po cap P w h hl)
  have kb := hid (wrI_B P 0)
  generalize wrI P 0 = z at *
  clear h
  go_enter Tryd.func71, Tryd.ntmps71
  go_wp2_with fail
  refine k.out.mono ?_
  rintro e w' ⟨rfl, e2⟩
  rw [e2]
  clear e2
  go_wp2_with fail
  go_ret
  exact ⟨by rw [kb.out]; rfl, rfl⟩

set_option maxRecDepth 100000 in
set_option maxHeartbeats 2000000 in
theorem isInstance_any (gd : Int) (bo : Option Addr) (cap : Nat) (B : Ins) (w : World) (h : InsC w bo B) (hl : B.length ≤ 9223372036854775807) :
    Calls Tryd.prog 50 #[.agg #[.int .i64 gd, .slice bo B.length cap]] w fun e w' => e = .returned (.bool (decide ((checkZ gd B).2.2 = 0))) ∧ Old w w' := by
  have oA : Old w (w.alloc (.cells #[.int .i64 gd, .slice bo B.length cap] 24)) := (Old.refl w).alloc _
  have c0 := new_cell w #[.int .i64 gd, .slice bo B.length cap] 24 0 _ rfl
  have c1 := new_cell w #[.int .i64 gd, .slice bo B.length cap] 24 1 _ rfl
  have kC := hid (check_any gd bo cap B _ (h.old oA) hl)
  have ko := hid oA
  generalize checkZ gd B = cz at *
  obtain ⟨z1, z2, z3⟩ := cz
  dsimp only at kC ⊢
  clear oA h
  go_enter Tryd.func50, Tryd.ntmps50
  go_wp2_with fail
  refine kC.out.mono ?_
  rintro e w2 ⟨rfl, o2⟩
  have ko := hid (ko.out.trans o2)
  clear o2 kC
  go_wp2_with fail
  go_ret
  exact ⟨by simp; rfl, ko.out⟩

set_option maxRecDepth 100000 in
set_option maxHeartbeats 2000000 in
theorem whole_any (gd : Int) (bo : Option Addr) (n cap : Nat) (w : World) :
    Calls Tryd.prog 34 #[.agg #[.int .i64 gd, .slice bo n cap]] w fun e w' => e = .returned (.agg #[.int .i64 0, .int .u32 ((allZ gd).1 : Int)]) ∧ Old w w' := by
  have oA : Old w ((w.alloc (.cells #[.int .i64 gd, .slice bo n cap] 24)).alloc (.cells #[.int .i64 0, .int .u32 0] 79)) := ((Old.refl w).alloc _).alloc _
  have z1 := alloc_size w (.cells #[.int .i64 gd, .slice bo n cap] 24)
  have n5 := heap_new w (.cells #[.int .i64 gd, .slice bo n cap] 24)
  have n5 := (Below.heap_alloc _ (.cells #[.int .i64 0, .int .u32 0] 79) _ (blk_lt n5)).trans n5
  have n6 := heap_new (w.alloc (.cells #[.int .i64 gd, .slice bo n cap] 24)) (.cells #[.int .i64 0, .int .u32 0] 79)
  rw [z1] at n6
  have c0 := blk_cells (i := 0) (v := .int .i64 gd) n5 rfl
  have y0 := blk_cells (i := 0) (v := .int .i64 0) n6 rfl
  have y1 := blk_cells (i := 1) (v := .int .u32 0) n6 rfl
  have yf := fun i => blk_fz n6 i
  have kA := hid (fun w => all_any gd w)
  generalize allZ gd = az at *
  obtain ⟨a0, a1⟩ := az
  dsimp only at kA ⊢
  have ko := hid oA
  have kn6 := hid n6
  clear oA z1 n5 n6
  go_enter Tryd.func34, Tryd.ntmps34
  go_wp2_with fail
  refine (kA.out _).mono ?_
  rintro e w2 ⟨rfl, e2⟩
  rw [e2]
  clear e2 kA
  generalize (w.alloc (.cells #[.int .i64 gd, .slice bo n cap] 24)).alloc (.cells #[.int .i64 0, .int .u32 0] 79) = W1 at *
  have kb := hid (show ((W1.setCell ⟨w.heap.size + 1, 0, none⟩ (.int .i64 0)).setCell ⟨w.heap.size + 1, 1, none⟩ (.int .u32 (a0 : Int))).heap[w.heap.size + 1]? = some (.cells #[.int .i64 0, .int .u32 (a0 : Int)] 79 (0, 0)) from by rw [heap_set _ (heap_set _ kn6.out)]; rfl)
  have kf := hid (Frm.trans (frm_set W1 (w.heap.size + 1) 0 (.int .i64 0)) (frm_set _ (w.heap.size + 1) 1 (.int .u32 (a0 : Int))) (fun _ _ h => h))
  go_wp2_with fail
  have e0 := blk_cells (i := 0) (v := .int .i64 0) kb.out rfl
  have e1 := blk_cells (i := 1) (v := .int .u32 (a0 : Int)) kb.out rfl
  refine bodyPost_ret (v := .agg #[.int .i64 0, .int .u32 (a0 : Int)]) (by simp [results, Tryd.results34, go_sem, e0, e1]) rfl ⟨rfl, ?_⟩
  exact Frm.trans ko.out kf.out (fun i hi e => by omega)
end Go.Proofs.YtpbbnbobmcaoiaaDoor
