/- The best choice where a buyer has no offers: walked. -/
import Derived.Test.YtmapejhacbmckaaDoorF10
namespace Go.Proofs.YtmapejhacbmckaaDoor
open Go.RowKit Go.Lib Go.Shelf
attribute [local go_sem] Oper.semAt_some

/-- What offers.With leaves where no offers are handed in. -/
def WiP (gd : Int) (B : Ins) (k : Int) (w : World) (e : Ending) (w' : World) : Prop := Old w w' ∧ ((wiE gd B k ≠ 0 ∧ e = .returned (.tuple #[.agg #[.int .i64 0, .slice none 0 0], .int .i64 (wiE gd B k)])) ∨ (wiE gd B k = 0 ∧ ∃ g, e = .returned (.tuple #[.agg #[.int .i64 gd, .slice (some ⟨g, 0, none⟩) B.length B.length], .int .i64 0]) ∧ w.heap.size ≤ g ∧ ∀ Y, Frm (fun q => q < g) w' Y → InsC Y (some ⟨g, 0, none⟩) (B.set k.toNat [])))


set_option maxRecDepth 100000 in
set_option maxHeartbeats 4000000 in
theorem owithout_any (gd : Int) (bo : Option Addr) (cap : Nat) (B : Ins) (k : Int) (w : World) (h : InsC w bo B) (hV : InsV w bo B) (hl : B.length ≤ 9223372036854775807) :
    Calls Tryd.prog 33 #[.agg #[.int .i64 gd, .slice bo B.length cap], .int .i64 k] w (WiP gd B k w) := by
  have o1 : Old w (w.alloc (.cells #[.int .i64 gd, .slice bo B.length cap] 24)) := (Old.refl w).alloc _
  have oR : Old (w.alloc (.cells #[.int .i64 gd, .slice bo B.length cap] 24)) ((w.alloc (.cells #[.int .i64 gd, .slice bo B.length cap] 24)).alloc (.cells #[.int .i64 0, .slice none 0 0] 24)) := (Old.refl _).alloc _
  have bR := heap_new (w.alloc (.cells #[.int .i64 gd, .slice bo B.length cap] 24)) (.cells #[.int .i64 0, .slice none 0 0] 24)
  rw [alloc_size] at bR
  have zR : ((w.alloc (.cells #[.int .i64 gd, .slice bo B.length cap] 24)).alloc (.cells #[.int .i64 0, .slice none 0 0] 24)).heap.size = w.heap.size + 1 + 1 := by rw [alloc_size, alloc_size]
  have ko := hid (o1.trans oR)
  have kbR := hid bR
  have kzR := hid zR
  have kW := hid (fun V (o : Old w V) => with_any gd bo cap B k V (h.old o) (hV.old o) hl)
  obtain ⟨s, hs⟩ : ∃ s, w.heap.size = s := ⟨_, rfl⟩
  rw [hs] at kbR kzR
  clear h hV o1 oR bR zR
  go_enter Tryd.func33, Tryd.ntmps33
  go_wp2_with fail
  refine (kW.out _ ko.out).mono ?_
  rintro e w2 ⟨o2, (⟨hw, rfl⟩ | ⟨hw, g, rfl, hg, hI⟩)⟩
  · have ko2 := hid (ko.out.trans o2)
    have kw := hid hw
    clear hw
    have b2 := (o2.block _ (blk_lt kbR.out) (fun h => h)).trans kbR.out
    have e0 := blk_cells (i := 0) b2 rfl
    have e1 := blk_fz b2 0
    have b3 := heap_set (i := 0) (.int .i64 0) b2
    have e4 := blk_cells (i := 1) b3 rfl
    have e5 := blk_fz b3 1
    have b4 := heap_set (i := 1) (.slice none 0 0) b3
    have fS := (frm_set w2 (s + 1) 0 (.int .i64 0)).trans (frm_set _ (s + 1) 1 (.slice none 0 0)) (fun _ _ e => e)
    go_wp2_with fail
    have fS2 : Hid (Frm (fun q => q = s + 1) w2 ((w2.setCell ⟨s + 1, 0, none⟩ (.int .i64 0)).setCell ⟨s + 1, 1, none⟩ (.slice none 0 0))) := fS
    have kb4 := hid b4
    clear fS b3 b4 e0 e1 e4 e5
    generalize (w2.setCell ⟨s + 1, 0, none⟩ (.int .i64 0)).setCell ⟨s + 1, 1, none⟩ (.slice none 0 0) = Z at *
    have q0 := blk_cells (v := .int .i64 0) (i := 0) kb4.out rfl
    have q1 := blk_cells (v := .slice none 0 0) (i := 1) kb4.out rfl
    refine bodyPost_ret (v := .tuple #[.agg #[.int .i64 0, .slice none 0 0], .int .i64 (wiE gd B k)]) ?_ rfl ?_
    · simp [results, Tryd.f33, go_sem, q0, q1]
    · exact ⟨Frm.trans ko2.out fS2.out (fun i hi e => by omega), .inl ⟨kw.out, rfl⟩⟩
  · have ko2 := hid (ko.out.trans o2)
    have kw := hid hw
    have kI := hid hI
    have kg : Hid (s + 1 < g) := by have := kzR.out; show _ < _; omega
    clear hw hI hg
    have b2 := (o2.block _ (blk_lt kbR.out) (fun h => h)).trans kbR.out
    have e0 := blk_cells (i := 0) b2 rfl
    have e1 := blk_fz b2 0
    have b3 := heap_set (i := 0) (.int .i64 gd) b2
    have e4 := blk_cells (i := 1) b3 rfl
    have e5 := blk_fz b3 1
    have b4 := heap_set (i := 1) (.slice (some ⟨g, 0, none⟩) B.length B.length) b3
    have fS := (frm_set w2 (s + 1) 0 (.int .i64 gd)).trans (frm_set _ (s + 1) 1 (.slice (some ⟨g, 0, none⟩) B.length B.length)) (fun _ _ e => e)
    go_wp2_with fail
    have fS2 : Hid (Frm (fun q => q = s + 1) w2 ((w2.setCell ⟨s + 1, 0, none⟩ (.int .i64 gd)).setCell ⟨s + 1, 1, none⟩ (.slice (some ⟨g, 0, none⟩) B.length B.length))) := fS
    have kb4 := hid b4
    clear fS b3 b4 e0 e1 e4 e5
    generalize (w2.setCell ⟨s + 1, 0, none⟩ (.int .i64 gd)).setCell ⟨s + 1, 1, none⟩ (.slice (some ⟨g, 0, none⟩) B.length B.length) = Z at *
    have q0 := blk_cells (v := .int .i64 gd) (i := 0) kb4.out rfl
    have q1 := blk_cells (v := .slice (some ⟨g, 0, none⟩) B.length B.length) (i := 1) kb4.out rfl
    refine bodyPost_ret (v := .tuple #[.agg #[.int .i64 gd, .slice (some ⟨g, 0, none⟩) B.length B.length], .int .i64 0]) ?_ rfl ?_
    · simp [results, Tryd.f33, go_sem, q0, q1]
    · have := kg.out
      exact ⟨Frm.trans ko2.out fS2.out (fun i hi e => by omega), .inr ⟨kw.out, g, rfl, by omega, fun Y hY => kI.out Y (Frm.trans (Frm.mono fS2.out (fun _ _ e => by omega)) hY (fun _ _ e => e))⟩⟩

/-- Without a buyer: the instance, the error. -/
def woB (B : Ins) (k : Int) : Ins := B.set k.toNat []
def woE (gd : Int) (B : Ins) (k : Int) : Int := if wiE gd B k ≠ 0 then wiE gd B k else ckZ gd (woB B k) 0 (allZ gd).1
def woW (gd : Int) (B : Ins) (k : Int) : Int := if wiE gd B k ≠ 0 then 0 else frZ gd (woB B k) 0 (allZ gd).1
def woC (gd : Int) (B : Ins) (k : Int) : List Int := if wiE gd B k ≠ 0 then [] else ptC gd (woB B k) 0 (allZ gd).1

set_option maxRecDepth 100000 in
set_option maxHeartbeats 4000000 in
theorem without_any (gd : Int) (bo : Option Addr) (cap : Nat) (B : Ins) (k : Int) (w : World) (h : InsC w bo B) (hV : InsV w bo B) (hl : B.length ≤ 9223372036854775807) (hT : Tabs w) :
    Calls Tryd.prog 14 #[.agg #[.int .i64 gd, .slice bo B.length cap], .int .i64 k] w fun e w' => ∃ v, e = .returned (.tuple #[.agg #[v, .int .i64 (woW gd B k)], .int .i64 (woE gd B k)]) ∧ NewZ w.heap.size w' v (woC gd B k) ∧ Old w w' := by
  have o1 : Old w (w.alloc (.cells #[.int .i64 gd, .slice bo B.length cap] 24)) := (Old.refl w).alloc _
  have oR : Old (w.alloc (.cells #[.int .i64 gd, .slice bo B.length cap] 24)) ((w.alloc (.cells #[.int .i64 gd, .slice bo B.length cap] 24)).alloc (.cells #[.slice none 0 0, .int .i64 0] 30)) := (Old.refl _).alloc _
  have b1 := heap_new w (.cells #[.int .i64 gd, .slice bo B.length cap] 24)
  have b1 := (oR.block _ (blk_lt b1) (fun h => h)).trans b1
  have bR := heap_new (w.alloc (.cells #[.int .i64 gd, .slice bo B.length cap] 24)) (.cells #[.slice none 0 0, .int .i64 0] 30)
  rw [alloc_size] at bR
  have zR : ((w.alloc (.cells #[.int .i64 gd, .slice bo B.length cap] 24)).alloc (.cells #[.slice none 0 0, .int .i64 0] 30)).heap.size = w.heap.size + 1 + 1 := by rw [alloc_size, alloc_size]
  have ko := hid (o1.trans oR)
  have kbR := hid bR
  have kb1 := hid b1
  have kzR := hid zR
  have kW := hid (fun V (o : Old w V) => owithout_any gd bo cap B k V (h.old o) (hV.old o) hl)
  have kT := hid hT
  obtain ⟨s, hs⟩ : ∃ s, w.heap.size = s := ⟨_, rfl⟩
  rw [hs] at kbR kzR kb1
  have c0 := blk_cells (i := 0) kb1.out rfl
  have c1 := blk_cells (i := 1) kb1.out rfl
  simp only [List.getElem_toArray, List.getElem_cons_zero, List.getElem_cons_succ] at c0 c1
  clear h hV o1 oR bR zR hT b1
  go_enter Tryd.func14, Tryd.ntmps14
  go_wp2_with fail
  refine (kW.out _ ko.out).mono ?_
  rintro e w1 ⟨o1, hcase⟩
  have ko1 := hid (ko.out.trans o1)
  have kb11 := hid ((o1.block _ (blk_lt kb1.out) (fun h => h)).trans kb1.out)
  have kbR := hid ((o1.block _ (blk_lt kbR.out) (fun h => h)).trans kbR.out)
  clear c0 c1 kW
  rcases hcase with ⟨hw, rfl⟩ | ⟨hw, g, rfl, hg, hI⟩
  · have kw := hid hw
    have hwb : (wiE gd B k != 0) = true := by simpa using hw
    have k1 : Hid (woE gd B k = wiE gd B k) := if_pos hw
    have k2 : Hid (woW gd B k = 0) := if_pos hw
    have k3 : Hid (woC gd B k = []) := if_pos hw
    have d0 := blk_cells (i := 0) kb11.out rfl
    have d1 := blk_fz kb11.out 0
    have b5 := heap_set (i := 0) (.int .i64 0) kb11.out
    have d2 := blk_cells (i := 1) b5 rfl
    have d3 := blk_fz b5 1
    have b6 := heap_set (i := 1) (.slice none 0 0) b5
    have d4 := blk_cells (v := .int .i64 0) (i := 0) b6 rfl
    have d5 := blk_cells (v := .slice none 0 0) (i := 1) b6 rfl
    have fX := (frm_set w1 s 0 (.int .i64 0)).trans (frm_set _ s 1 (.slice none 0 0)) (fun _ _ e => e)
    have kfX : Hid (Frm (fun q => q = s) w1 ((w1.setCell ⟨s, 0, none⟩ (.int .i64 0)).setCell ⟨s, 1, none⟩ (.slice none 0 0))) := fX
    have kbR := hid ((kfX.out.block (s + 1) (blk_lt kbR.out) (by omega)).trans kbR.out)
    clear fX b5 b6
    have e0 := blk_cells (i := 0) kbR.out rfl
    have e1 := blk_fz kbR.out 0
    have b3 := heap_set (i := 0) (.slice none 0 0) kbR.out
    have e4 := blk_cells (i := 1) b3 rfl
    have e5 := blk_fz b3 1
    have b4 := heap_set (i := 1) (.int .i64 0) b3
    have fS := (frm_set ((w1.setCell ⟨s, 0, none⟩ (.int .i64 0)).setCell ⟨s, 1, none⟩ (.slice none 0 0)) (s + 1) 0 (.slice none 0 0)).trans (frm_set _ (s + 1) 1 (.int .i64 0)) (fun _ _ e => e)
    go_wp2_with fail
    have fS2 : Hid (Frm (fun q => q = s + 1) ((w1.setCell ⟨s, 0, none⟩ (.int .i64 0)).setCell ⟨s, 1, none⟩ (.slice none 0 0)) ((((w1.setCell ⟨s, 0, none⟩ (.int .i64 0)).setCell ⟨s, 1, none⟩ (.slice none 0 0)).setCell ⟨s + 1, 0, none⟩ (.slice none 0 0)).setCell ⟨s + 1, 1, none⟩ (.int .i64 0))) := fS
    have kb4 := hid b4
    clear fS b3 b4 e0 e1 e4 e5
    generalize (((w1.setCell ⟨s, 0, none⟩ (.int .i64 0)).setCell ⟨s, 1, none⟩ (.slice none 0 0)).setCell ⟨s + 1, 0, none⟩ (.slice none 0 0)).setCell ⟨s + 1, 1, none⟩ (.int .i64 0) = Z at *
    have q0 := blk_cells (v := .slice none 0 0) (i := 0) kb4.out rfl
    have q1 := blk_cells (v := .int .i64 0) (i := 1) kb4.out rfl
    refine bodyPost_ret (v := .tuple #[.agg #[.slice none 0 0, .int .i64 0], .int .i64 (wiE gd B k)]) ?_ rfl ?_
    · simp [results, Tryd.f14, go_sem, q0, q1]
    · refine ⟨.slice none 0 0, by rw [k1.out, k2.out], by rw [k3.out]; exact ⟨none, 0, rfl, .inl ⟨rfl, rfl⟩⟩, Frm.trans (Frm.trans ko1.out kfX.out (fun i hi e => by omega)) fS2.out (fun i hi e => by omega)⟩
  · have kw := hid hw
    have k1 : Hid (woE gd B k = ckZ gd (woB B k) 0 (allZ gd).1) := if_neg (by simp [hw])
    have k2 : Hid (woW gd B k = frZ gd (woB B k) 0 (allZ gd).1) := if_neg (by simp [hw])
    have k3 : Hid (woC gd B k = ptC gd (woB B k) 0 (allZ gd).1) := if_neg (by simp [hw])
    have kg : Hid (s + 1 < g) := by have := kzR.out; show _ < _; omega
    have kI := hid hI
    have hBl : (woB B k).length = B.length := List.length_set
    clear hw hI hg
    have d0 := blk_cells (i := 0) kb11.out rfl
    have d1 := blk_fz kb11.out 0
    have b5 := heap_set (i := 0) (.int .i64 gd) kb11.out
    have d2 := blk_cells (i := 1) b5 rfl
    have d3 := blk_fz b5 1
    have b6 := heap_set (i := 1) (.slice (some ⟨g, 0, none⟩) B.length B.length) b5
    have d4 := blk_cells (v := .int .i64 gd) (i := 0) b6 rfl
    have d5 := blk_cells (v := .slice (some ⟨g, 0, none⟩) B.length B.length) (i := 1) b6 rfl
    have fX := (frm_set w1 s 0 (.int .i64 gd)).trans (frm_set _ s 1 (.slice (some ⟨g, 0, none⟩) B.length B.length)) (fun _ _ e => e)
    have kfX : Hid (Frm (fun q => q = s) w1 ((w1.setCell ⟨s, 0, none⟩ (.int .i64 gd)).setCell ⟨s, 1, none⟩ (.slice (some ⟨g, 0, none⟩) B.length B.length))) := fX
    have kbR := hid ((kfX.out.block (s + 1) (blk_lt kbR.out) (by omega)).trans kbR.out)
    clear fX b5 b6
    have kow : Hid (Old w ((w1.setCell ⟨s, 0, none⟩ (.int .i64 gd)).setCell ⟨s, 1, none⟩ (.slice (some ⟨g, 0, none⟩) B.length B.length))) := Frm.trans ko1.out kfX.out (fun i hi e => by omega)
    have kIx := hid (kI.out _ (Frm.mono kfX.out (fun i hi e => by have := kg.out; omega)))
    have kBe := hid (best_any gd (some ⟨g, 0, none⟩) B.length (woB B k) ((w1.setCell ⟨s, 0, none⟩ (.int .i64 gd)).setCell ⟨s, 1, none⟩ (.slice (some ⟨g, 0, none⟩) B.length B.length)) kIx.out (by rw [hBl]; exact Nat.le_refl _) (by rw [hBl]; exact hl) (kT.out.old kow.out))
    rw [hBl] at kBe
    go_wp2_with fail
    generalize (w1.setCell ⟨s, 0, none⟩ (.int .i64 gd)).setCell ⟨s, 1, none⟩ (.slice (some ⟨g, 0, none⟩) B.length B.length) = w2 at *
    refine kBe.out.mono ?_
    rintro e w3 ⟨v, rfl, hz, o3⟩
    have hz := hz.up kow.out.size
    obtain ⟨ao, c, hv, -⟩ := id hz
    subst hv
    have kz := hid hz
    have kbR := hid ((o3.block (s + 1) (blk_lt kbR.out) (fun h => h)).trans kbR.out)
    have ko3 := hid (kow.out.trans o3)
    generalize ptC gd (woB B k) 0 (allZ gd).1 = C at *
    generalize frZ gd (woB B k) 0 (allZ gd).1 = z at *
    generalize ckZ gd (woB B k) 0 (allZ gd).1 = y at *
    clear hz o3 kBe kIx kI d4 d5
    have e0 := blk_cells (i := 0) kbR.out rfl
    have e1 := blk_fz kbR.out 0
    have b3 := heap_set (i := 0) (.slice ao C.length c) kbR.out
    have e4 := blk_cells (i := 1) b3 rfl
    have e5 := blk_fz b3 1
    have b4 := heap_set (i := 1) (.int .i64 z) b3
    have fS := (frm_set (w3) (s + 1) 0 (.slice ao C.length c)).trans (frm_set _ (s + 1) 1 (.int .i64 z)) (fun _ _ e => e)
    go_wp2_with fail
    have fS2 : Hid (Frm (fun q => q = s + 1) (w3) (((w3).setCell ⟨s + 1, 0, none⟩ (.slice ao C.length c)).setCell ⟨s + 1, 1, none⟩ (.int .i64 z))) := fS
    have kb4 := hid b4
    clear fS b3 b4 e0 e1 e4 e5
    generalize ((w3).setCell ⟨s + 1, 0, none⟩ (.slice ao C.length c)).setCell ⟨s + 1, 1, none⟩ (.int .i64 z) = Z at *
    have q0 := blk_cells (v := .slice ao C.length c) (i := 0) kb4.out rfl
    have q1 := blk_cells (v := .int .i64 z) (i := 1) kb4.out rfl
    refine bodyPost_ret (v := .tuple #[.agg #[.slice ao C.length c, .int .i64 z], .int .i64 y]) ?_ rfl ?_
    · simp [results, Tryd.f14, go_sem, q0, q1]
    · exact ⟨_, by rw [k1.out, k2.out], by rw [k3.out]; exact kz.out.frm5 fS2.out kbR.out (by decide), Frm.trans ko3.out fS2.out (fun i hi e => by omega)⟩
end Go.Proofs.YtmapejhacbmckaaDoor

/- The chapter's instance, reckoned, and laid in memory: walked. -/
namespace Go.Proofs.YtmapejhacbmckaaDoor
open Go.RowKit Go.Lib Go.Shelf
attribute [local go_sem] Oper.semAt_some

def T3 : Ins := [[(1, 5), (3, 9)], [(2, 6), (6, 7)], [(2, 5)]]
theorem t3_ck : ckZ 3 T3 0 (allZ 3).1 = 0 := by decide +kernel
theorem t3_fr : frZ 3 T3 0 (allZ 3).1 = 12 := by decide +kernel
theorem t3_pt : ptC 3 T3 0 (allZ 3).1 = [0, 1, -1] := by decide +kernel
theorem t3_we : woE 3 T3 1 = 0 := by decide +kernel
theorem t3_ww : woW 3 T3 1 = 10 := by decide +kernel
theorem t3_wc : woC 3 T3 1 = [0, -1, 0] := by decide +kernel

theorem off_blk {w : World} {b : Nat} {t : TypeId} {L : List Off} (h : w.heap[b]? = some (.cells (flatO L).toArray t (0, 0))) : OffC w (some ⟨b, 0, none⟩) L := (own_blk h).off

set_option maxRecDepth 100000 in
set_option maxHeartbeats 4000000 in
theorem small_any (w : World) : Calls Tryd.prog 31 #[] w fun e w' => ∃ b, e = .returned (.agg #[.int .i64 3, .slice (some ⟨b, 0, none⟩) 3 3]) ∧ InsC w' (some ⟨b, 0, none⟩) T3 ∧ InsV w' (some ⟨b, 0, none⟩) T3 ∧ Old w w' := by
  go_enter Tryd.func31, Tryd.ntmps31
  go_wp2_with fail
  obtain ⟨s, hs⟩ : ∃ s, w.heap.size = s := ⟨_, rfl⟩
  rw [hs]
  have o1 : Old w (w.alloc (.cells #[.int .i64 3, .slice (some ⟨s + 1 + 1 + 1 + 1, 0, none⟩) 3 3] 24)) := (Old.refl w).alloc _
  have h1 := heap_new w (.cells #[.int .i64 3, .slice (some ⟨s + 1 + 1 + 1 + 1, 0, none⟩) 3 3] 24)
  have z1 := alloc_size w (.cells #[.int .i64 3, .slice (some ⟨s + 1 + 1 + 1 + 1, 0, none⟩) 3 3] 24)
  generalize w.alloc (.cells #[.int .i64 3, .slice (some ⟨s + 1 + 1 + 1 + 1, 0, none⟩) 3 3] 24) = w1 at *
  have o2 : Old w1 (w1.alloc (.cells #[.int .u32 1, .int .i64 5, .int .u32 3, .int .i64 9] 57)) := (Old.refl w1).alloc _
  have h2 := heap_new w1 (.cells #[.int .u32 1, .int .i64 5, .int .u32 3, .int .i64 9] 57)
  have z2 := alloc_size w1 (.cells #[.int .u32 1, .int .i64 5, .int .u32 3, .int .i64 9] 57)
  generalize w1.alloc (.cells #[.int .u32 1, .int .i64 5, .int .u32 3, .int .i64 9] 57) = w2 at *
  have o3 : Old w2 (w2.alloc (.cells #[.int .u32 2, .int .i64 6, .int .u32 6, .int .i64 7] 57)) := (Old.refl w2).alloc _
  have h3 := heap_new w2 (.cells #[.int .u32 2, .int .i64 6, .int .u32 6, .int .i64 7] 57)
  have z3 := alloc_size w2 (.cells #[.int .u32 2, .int .i64 6, .int .u32 6, .int .i64 7] 57)
  generalize w2.alloc (.cells #[.int .u32 2, .int .i64 6, .int .u32 6, .int .i64 7] 57) = w3 at *
  have o4 : Old w3 (w3.alloc (.cells #[.int .u32 2, .int .i64 5] 57)) := (Old.refl w3).alloc _
  have h4 := heap_new w3 (.cells #[.int .u32 2, .int .i64 5] 57)
  have z4 := alloc_size w3 (.cells #[.int .u32 2, .int .i64 5] 57)
  generalize w3.alloc (.cells #[.int .u32 2, .int .i64 5] 57) = w4 at *
  have o5 : Old w4 (w4.alloc (.cells #[.slice (some ⟨s + 1, 0, none⟩) 2 2, .slice (some ⟨s + 1 + 1, 0, none⟩) 2 2, .slice (some ⟨s + 1 + 1 + 1, 0, none⟩) 1 1] 55)) := (Old.refl w4).alloc _
  have h5 := heap_new w4 (.cells #[.slice (some ⟨s + 1, 0, none⟩) 2 2, .slice (some ⟨s + 1 + 1, 0, none⟩) 2 2, .slice (some ⟨s + 1 + 1 + 1, 0, none⟩) 1 1] 55)
  have z5 := alloc_size w4 (.cells #[.slice (some ⟨s + 1, 0, none⟩) 2 2, .slice (some ⟨s + 1 + 1, 0, none⟩) 2 2, .slice (some ⟨s + 1 + 1 + 1, 0, none⟩) 1 1] 55)
  generalize w4.alloc (.cells #[.slice (some ⟨s + 1, 0, none⟩) 2 2, .slice (some ⟨s + 1 + 1, 0, none⟩) 2 2, .slice (some ⟨s + 1 + 1 + 1, 0, none⟩) 1 1] 55) = w5 at *
  rw [z4, z3, z2, z1, hs] at h5
  rw [z3, z2, z1, hs] at h4
  rw [z2, z1, hs] at h3
  rw [z1, hs] at h2
  rw [hs] at h1
  have oA := ((o2.trans o3).trans o4).trans o5
  have r0 := oA.cell (blk_cells (i := 0) h1 rfl)
  have r1 := oA.cell (blk_cells (i := 1) h1 rfl)
  have f1 : OffC w5 (some ⟨s + 1, 0, none⟩) [(1, 5), (3, 9)] := (off_blk (L := [(1, 5), (3, 9)]) h2).old ((o3.trans o4).trans o5)
  have f2 : OffC w5 (some ⟨s + 1 + 1, 0, none⟩) [(2, 6), (6, 7)] := (off_blk (L := [(2, 6), (6, 7)]) h3).old (o4.trans o5)
  have f3 : OffC w5 (some ⟨s + 1 + 1 + 1, 0, none⟩) [(2, 5)] := (off_blk (L := [(2, 5)]) h4).old o5
  refine bodyPost_ret (v := .agg #[.int .i64 3, .slice (some ⟨s + 1 + 1 + 1 + 1, 0, none⟩) 3 3]) (by simp [results, Tryd.results31, go_sem, r0, r1]) rfl ?_
  refine ⟨s + 1 + 1 + 1 + 1, rfl, fun i hi => ?_, ?_, o1.trans oA⟩
  · match i, hi with
    | 0, _ => exact ⟨s + 1 + 1 + 1 + 1, 0, some ⟨s + 1, 0, none⟩, 2, rfl, blk_cells h5 rfl, f1, (by show ([(1, 5), (3, 9)] : List Off).length ≤ 9223372036854775807; decide), (by show ∀ x ∈ ([(1, 5), (3, 9)] : List Off), x.1 < 4294967296; decide)⟩
    | 1, _ => exact ⟨s + 1 + 1 + 1 + 1, 0, some ⟨s + 1 + 1, 0, none⟩, 2, rfl, blk_cells h5 rfl, f2, (by show ([(2, 6), (6, 7)] : List Off).length ≤ 9223372036854775807; decide), (by show ∀ x ∈ ([(2, 6), (6, 7)] : List Off), x.1 < 4294967296; decide)⟩
    | 2, _ => exact ⟨s + 1 + 1 + 1 + 1, 0, some ⟨s + 1 + 1 + 1, 0, none⟩, 1, rfl, blk_cells h5 rfl, f3, (by show ([(2, 5)] : List Off).length ≤ 9223372036854775807; decide), (by show ∀ x ∈ ([(2, 5)] : List Off), x.1 < 4294967296; decide)⟩
  · refine ⟨[.slice (some ⟨s + 1, 0, none⟩) 2 2, .slice (some ⟨s + 1 + 1, 0, none⟩) 2 2, .slice (some ⟨s + 1 + 1 + 1, 0, none⟩) 1 1], rfl, fun i hi => ?_, fun i hi => ?_⟩
    · match i, hi with
      | 0, _ => exact ⟨s + 1 + 1 + 1 + 1, 0, rfl, blk_cells h5 rfl, rfl⟩
      | 1, _ => exact ⟨s + 1 + 1 + 1 + 1, 0, rfl, blk_cells h5 rfl, rfl⟩
      | 2, _ => exact ⟨s + 1 + 1 + 1 + 1, 0, rfl, blk_cells h5 rfl, rfl⟩
    · match i, hi with
      | 0, _ => exact ⟨some ⟨s + 1, 0, none⟩, 2, rfl, f1, fun h => by cases h⟩
      | 1, _ => exact ⟨some ⟨s + 1 + 1, 0, none⟩, 2, rfl, f2, fun h => by cases h⟩
      | 2, _ => exact ⟨some ⟨s + 1 + 1 + 1, 0, none⟩, 1, rfl, f3, fun h => by cases h⟩
end Go.Proofs.YtmapejhacbmckaaDoor

/- Two clearings held against each other; the chapter's rows: walked. -/
namespace Go.Proofs.YtmapejhacbmckaaDoor
open Go.RowKit Go.Lib Go.Shelf
attribute [local go_sem] Oper.semAt_some

set_option maxRecDepth 100000 in
set_option maxHeartbeats 4000000 in
theorem ints_any (ao bo : Option Addr) (ca cb : Nat) (Z : List Int) (w : World) (h1 : NumsC .i64 w ao Z) (h2 : NumsC .i64 w bo Z) (hl : Z.length ≤ 1048576) :
    Calls Tryd.prog 25 #[.slice ao Z.length ca, .slice bo Z.length cb] w fun e w' => e = .returned (.bool true) ∧ Old w w' := by
  have k1 := hid h1
  have k2 := hid h2
  clear h1 h2
  go_enter Tryd.func25, Tryd.ntmps25
  have hne : ((Z.length : Int) != (Z.length : Int)) = false := by simp
  go_wp2_with fail
  go_loopw [5] (fun t wr => ∃ i : Nat, i ≤ Z.length ∧ t = .int .i64 (i : Int) ∧ Hid (Old w wr)) (fun t _ => Z.length - (intOf t).toNat)
  case atStart => exact ⟨0, Nat.zero_le _, rfl, Old.refl _⟩
  case round =>
    obtain ⟨i, hi, rfl, hg⟩ := hrel
    by_cases hlt : i < Z.length
    · have hlt' : (i : Int) < (Z.length : Int) := by omega
      obtain ⟨g, o, rfl, c1⟩ := k1.out.old hg.out i hlt
      obtain ⟨g', o', rfl, c2⟩ := k2.out.old hg.out i hlt
      generalize Z[i] = x at *
      have hb : (x != x) = false := by simp
      go_upto_region 6 with fail
      go_region
      go_wp2_with fail
      go_roundw
      case rel => exact ⟨i + 1, by omega, by go_num, hg.out.drewN 1⟩
      case measure => simp [intOf]; omega
    · obtain rfl : i = Z.length := by omega
      have hlt' : ¬ (Z.length : Int) < (Z.length : Int) := by omega
      go_wp2_with fail
      go_ret
      exact ⟨rfl, hg.out⟩

set_option maxRecDepth 100000 in
set_option maxHeartbeats 4000000 in
theorem same_any (ao bo : Option Addr) (ca cb : Nat) (Z : List Int) (z : Int) (w : World) (h1 : NumsC .i64 w ao Z) (h2 : NumsC .i64 w bo Z) (hl : Z.length ≤ 1048576) :
    Calls Tryd.prog 17 #[.agg #[.slice ao Z.length ca, .int .i64 z], .agg #[.slice bo Z.length cb, .int .i64 z]] w fun e w' => e = .returned (.bool true) ∧ Old w w' := by
  have kI := hid (fun V (o : Old w V) => ints_any ao bo ca cb Z V (h1.old o) (h2.old o) hl)
  have hzz : (z == z) = true := by simp
  have o1 : Old w (w.alloc (.cells #[.slice ao Z.length ca, .int .i64 z] 30)) := (Old.refl w).alloc _
  have b1 := heap_new w (.cells #[.slice ao Z.length ca, .int .i64 z] 30)
  have o2 : Old (w.alloc (.cells #[.slice ao Z.length ca, .int .i64 z] 30)) ((w.alloc (.cells #[.slice ao Z.length ca, .int .i64 z] 30)).alloc (.cells #[.slice bo Z.length cb, .int .i64 z] 30)) := (Old.refl _).alloc _
  have b2 := heap_new (w.alloc (.cells #[.slice ao Z.length ca, .int .i64 z] 30)) (.cells #[.slice bo Z.length cb, .int .i64 z] 30)
  rw [alloc_size] at b2
  have b1 := (o2.block _ (blk_lt b1) (fun h => h)).trans b1
  have c0 := blk_cells (i := 0) b1 rfl
  have c1 := blk_cells (i := 1) b1 rfl
  have c2 := blk_cells (i := 0) b2 rfl
  have c3 := blk_cells (i := 1) b2 rfl
  simp only [List.getElem_toArray, List.getElem_cons_zero, List.getElem_cons_succ] at c0 c1 c2 c3
  have ko := hid (o1.trans o2)
  clear o1 o2 b1 b2 h1 h2
  go_enter Tryd.func17, Tryd.ntmps17
  go_wp2_with fail
  refine (kI.out _ ko.out).mono ?_
  rintro e w2 ⟨rfl, o2⟩
  have c1 := o2.cell c1
  have c3 := o2.cell c3
  have ko2 := hid (ko.out.trans o2)
  go_wp2_with fail
  go_ret
  exact ⟨rfl, ko2.out⟩

set_option maxRecDepth 100000 in
set_option maxHeartbeats 8000000 in
theorem known_any (w : World) (hT : Tabs w) : Calls Tryd.prog 10 #[] w fun e w' => e = .returned (.bool true) ∧ Old w w' := by
  have kS := hid small_any
  have kT := hid hT
  clear hT
  go_enter Tryd.func10, Tryd.ntmps10
  go_wp2_with fail
  refine (kS.out _).mono ?_
  rintro e w1 ⟨b1, rfl, i1, -, o1⟩
  have kB := hid (best_any 3 (some ⟨b1, 0, none⟩) 3 T3 w1 i1 (by decide) (by decide) (kT.out.old o1))
  rw [t3_ck, t3_fr, t3_pt] at kB
  have ko1 := hid o1
  clear i1 o1
  go_wp2_with fail
  refine kB.out.mono ?_
  rintro e w2 ⟨v, rfl, hz, o2⟩
  obtain ⟨ao, c, hv, -⟩ := id hz
  subst hv
  have n2 := hid hz.nums
  have qA : Old w2 (w2.alloc (.cells #[.slice ao 3 c, .int .i64 12] 30)) := (Old.refl w2).alloc _
  have bA := heap_new w2 (.cells #[.slice ao 3 c, .int .i64 12] 30)
  have ko2 := hid ((ko1.out.trans o2).trans qA)
  have n3 := hid (n2.out.old qA)
  clear hz o2 kB ko1 n2 qA
  go_wp2_with fail
  generalize w2.alloc (.cells #[.slice ao 3 c, .int .i64 12] 30) = w3 at *
  generalize w2.heap.size = cb at *
  clear w2
  have kbA := hid bA
  clear bA
  refine (kS.out _).mono ?_
  rintro e w4 ⟨b3, rfl, i3, j3, o3⟩
  have ko3 := hid (ko2.out.trans o3)
  have kW := hid (without_any 3 (some ⟨b3, 0, none⟩) 3 T3 1 w4 i3 j3 (by decide) (kT.out.old ko3.out))
  rw [t3_we, t3_ww, t3_wc] at kW
  have n4 := hid (n3.out.old o3)
  have kbB := hid ((o3.block _ (blk_lt kbA.out) (fun h => h)).trans kbA.out)
  clear i3 j3 o3 ko2 n3 kbA w3
  go_wp2_with fail
  refine kW.out.mono ?_
  rintro e w5 ⟨u, rfl, hy, o4⟩
  obtain ⟨ao', c', hu, -⟩ := id hy
  subst hu
  have m5 := hid hy.nums
  have qB : Old w5 (w5.alloc (.cells #[.slice ao' 3 c', .int .i64 10] 30)) := (Old.refl w5).alloc _
  have bB := heap_new w5 (.cells #[.slice ao' 3 c', .int .i64 10] 30)
  have ko4 := hid ((ko3.out.trans o4).trans qB)
  have kz6 : Hid ((w5.alloc (.cells #[.slice ao' 3 c', .int .i64 10] 30)).heap.size = w5.heap.size + 1) := alloc_size _ _
  have n5 := hid ((n4.out.old o4).old qB)
  have m6 := hid (m5.out.old qB)
  have kbC := hid ((qB.block _ (Nat.lt_of_lt_of_le (blk_lt kbB.out) o4.size) (fun h => h)).trans ((o4.block _ (blk_lt kbB.out) (fun h => h)).trans kbB.out))
  clear hy o4 kW ko3 n4 m5 qB kbB w4
  have c0 := blk_cells (i := 0) kbC.out rfl
  have c1 := blk_cells (i := 1) kbC.out rfl
  have d0 := blk_cells (i := 0) bB rfl
  have d1 := blk_cells (i := 1) bB rfl
  simp only [List.getElem_toArray, List.getElem_cons_zero, List.getElem_cons_succ] at c0 c1 d0 d1
  go_wp2_with fail
  generalize w5.alloc (.cells #[.slice ao' 3 c', .int .i64 10] 30) = w6 at *
  have z6 : Hid (w6.heap.size = w5.heap.size + 1) := kz6
  generalize w5.heap.size = eb at *
  have qC : Old w6 (w6.alloc (.cells #[.int .i64 0, .int .i64 1, .int .i64 (-1)] 3)) := (Old.refl w6).alloc _
  have hC := nums_blk (k := .i64) (L := [0, 1, -1]) (heap_new w6 (.cells #[.int .i64 0, .int .i64 1, .int .i64 (-1)] 3))
  rw [z6.out] at hC
  have kSa := hid (same_any ao (some ⟨eb + 1, 0, none⟩) c 3 [0, 1, -1] 12 _ (n5.out.old qC) hC (by decide))
  have ko5 := hid (ko4.out.trans qC)
  have kbD := hid ((qC.block _ (blk_lt bB) (fun h => h)).trans bB)
  have m7 := hid (m6.out.old qC)
  generalize w6.alloc (.cells #[.int .i64 0, .int .i64 1, .int .i64 (-1)] 3) = w7 at *
  clear c0 c1 d0 d1 qC hC bB n5 m6 ko4 kbC
  refine kSa.out.mono ?_
  rintro e w8 ⟨rfl, o8⟩
  have ko8 := hid (ko5.out.trans o8)
  have kbE := hid ((o8.block _ (blk_lt kbD.out) (fun h => h)).trans kbD.out)
  have m8 := hid (m7.out.old o8)
  have d0 := blk_cells (i := 0) kbE.out rfl
  have d1 := blk_cells (i := 1) kbE.out rfl
  simp only [List.getElem_toArray, List.getElem_cons_zero, List.getElem_cons_succ] at d0 d1
  have qD : Old w8 (w8.alloc (.cells #[.int .i64 0, .int .i64 (-1), .int .i64 0] 3)) := (Old.refl w8).alloc _
  have hD := nums_blk (k := .i64) (L := [0, -1, 0]) (heap_new w8 (.cells #[.int .i64 0, .int .i64 (-1), .int .i64 0] 3))
  have kSb := hid (same_any ao' (some ⟨w8.heap.size, 0, none⟩) c' 3 [0, -1, 0] 10 _ (m8.out.old qD) hD (by decide))
  have ko9 := hid (ko8.out.trans qD)
  clear o8 ko5 kbD m7 kSa qD hD
  go_wp2_with fail
  refine kSb.out.mono ?_
  rintro e w9 ⟨rfl, o9⟩
  go_wp2_with fail
  go_ret
  exact ⟨rfl, ko9.out.trans o9⟩
end Go.Proofs.YtmapejhacbmckaaDoor

/- Whether an instance is more than is worked out: walked. -/
namespace Go.Proofs.YtmapejhacbmckaaDoor
open Go.RowKit Go.Lib Go.Shelf
attribute [local go_sem] Oper.semAt_some

/-- A yes or a no. -/
def AnyB (w : World) (e : Ending) (w' : World) : Prop := ∃ b : Bool, e = .returned (.bool b) ∧ Old w w'

set_option maxRecDepth 100000 in
set_option maxHeartbeats 4000000 in
theorem large_any (gd : Int) (bo : Option Addr) (cap : Nat) (B : Ins) (w : World) (h : InsC w bo B) :
    Calls Tryd.prog 9 #[.agg #[.int .i64 gd, .slice bo B.length cap]] w (AnyB w) := by
  have o1 : Old w (w.alloc (.cells #[.int .i64 gd, .slice bo B.length cap] 24)) := (Old.refl w).alloc _
  have c0 := new_cell w #[.int .i64 gd, .slice bo B.length cap] 24 0 _ rfl
  have c1 := new_cell w #[.int .i64 gd, .slice bo B.length cap] 24 1 _ rfl
  have kh := hid (h.old o1)
  have ko := hid o1
  clear o1 h
  go_enter Tryd.func9, Tryd.ntmps9
  go_wp2_with fail
  simp only [List.getElem_toArray, List.getElem_cons_zero, List.getElem_cons_succ] at c0 c1
  generalize w.alloc (.cells #[.int .i64 gd, .slice bo B.length cap] 24) = w1 at *
  generalize w.heap.size = s at *
  go_loopw [3] (fun t wr => ∃ i : Nat, i ≤ B.length ∧ i ≤ 41 ∧ t = .int .i64 (i : Int) ∧ wr = w1) (fun t _ => B.length - (intOf t).toNat)
  case atStart => exact ⟨0, Nat.zero_le _, by omega, rfl, by trivial⟩
  case round =>
    obtain ⟨i, hi, hi2, rfl, hwr⟩ := hrel
    obtain rfl := hwr.symm
    by_cases hlt : i < B.length
    · have hlt' : (i : Int) < (B.length : Int) := by omega
      have hlb : decide ((i : Int) < (B.length : Int)) = true := decide_eq_true hlt'
      by_cases h41 : i < 41
      · have h41' : (i : Int) < 41 := by omega
        have h41b : decide ((i : Int) < 41) = true := decide_eq_true h41'
        obtain ⟨g, o, a0, c9, rfl, ck, -⟩ := kh.out i hlt
        by_cases h20 : B[i].length > 20
        · have h20' : decide ((B[i].length : Int) > 20) = true := decide_eq_true (by omega)
          go_wp2_with fail
          go_ret
          exact ⟨_, rfl, ko.out⟩
        · have h20' : decide ((B[i].length : Int) > 20) = false := decide_eq_false (by omega)
          go_wp2_with fail
          go_roundw
          case rel => exact ⟨i + 1, by omega, by omega, by go_num, by trivial⟩
          case measure => simp [intOf]; omega
      · have h41' : ¬ (i : Int) < 41 := by omega
        have h41b : decide ((i : Int) < 41) = false := decide_eq_false h41'
        go_wp2_with fail
        go_ret
        exact ⟨_, rfl, ko.out⟩
    · obtain rfl : i = B.length := by omega
      have hlt' : ¬ (B.length : Int) < (B.length : Int) := by omega
      have hlb : decide ((B.length : Int) < (B.length : Int)) = false := decide_eq_false hlt'
      go_wp2_with fail
      go_ret
      exact ⟨_, rfl, ko.out⟩
end Go.Proofs.YtmapejhacbmckaaDoor
