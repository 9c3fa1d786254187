/- The best choice where a buyer has no offers: walked. -/
import Derived.Test.YtgikkbkgmjacmaaDoorF10
namespace Go.Proofs.YtgikkbkgmjacmaaDoor
open Go.RowKit Go.Lib Go.Shelf
attribute [local go_sem] Oper.semAt_some

/-- What offers.With leaves where no offers are handed in. -/
def WiP (gd : Int) (B : Ins) (k : Int) (w : World) (e : Ending) (w' : World) : Prop := Old w w' ∧ ((wiE gd B k ≠ 0 ∧ e = .returned (.tuple #[.agg #[.int .i64 0, .slice none 0 0], .int .i64 (wiE gd B k)])) ∨ (wiE gd B k = 0 ∧ ∃ g, e = .returned (.tuple #[.agg #[.int .i64 gd, .slice (some ⟨g, 0, none⟩) B.length B.length], .int .i64 0]) ∧ w.heap.size ≤ g ∧ ∀ Y, Frm (fun q => q < g) w' Y → InsC Y (some ⟨g, 0, none⟩) (B.set k.toNat [])))


set_option maxRecDepth 100000 in
set_option maxHeartbeats 4000000 in
theorem owithout_any (gd : Int) (bo : Option Addr) (cap : Nat) (B : Ins) (k : Int) (w : World) (h : InsC w bo B) (hV : InsV w bo B) (hl : B.length ≤ 9223372036854775807) :
    Calls Tryd.prog 28 #[.agg #[.int .i64 gd, .slice bo B.length cap], .int .i64 k] w (WiP gd B k w) := by
  have o1 : Old w (w.alloc (.cells #[.int .i64 gd, .slice bo B.length cap] 24)) := (Old.refl w).alloc _
  have oR : Old (w.alloc (.cells #[.int .i64 gd, .slice bo B.length cap] 24)) ((w.alloc (.cells #[.int .i64 gd, .slice bo B.length cap] 24)).alloc (.cells #[.int .i64 0, .slice none 0 0] 24)) := (Old.refl _).alloc _
  have bR := heap_new (w.alloc (.cells #[.int .i64 gd, .slice bo B.length cap] 24)) (.cells #[.int .i64 0, .slice none 0 0] 24)
  rw [alloc_size] at bR
  have zR : ((w.alloc (.cells #[.int .i64 gd, .slice bo B.length cap] 24)).alloc (.cells #[.int .i64 0, .slice none 0 0] 24)).heap.size = w.heap.size + 1 + 1 := by rw [alloc_size, alloc_size]
  have ko := hid (o1.trans oR)
  have kbR := hid bR
  have kzR := hid zR
  have kW := hid (fun V (o : Old w V) => with_any gd bo cap B k V (h.old o) (hV.old o) hl)
  obtain ⟨s, hs⟩ : ∃ s, w.heap.size = s := ⟨_, rfl⟩
  rw [hs] at kbR kzR
  clear h hV o1 oR bR zR
  go_enter Tryd.func28, Tryd.ntmps28
  go_wp2_with fail
  refine (kW.out _ ko.out).mono ?_
  rintro e w2 ⟨o2, (⟨hw, rfl⟩ | ⟨hw, g, rfl, hg, hI⟩)⟩
  · have ko2 := hid (ko.out.trans o2)
    have kw := hid hw
    clear hw
    have b2 := (o2.block _ (blk_lt kbR.out) (fun h => h)).trans kbR.out
    have e0 := blk_cells (i := 0) b2 rfl
    have e1 := blk_fz b2 0
    have b3 := heap_set (i := 0) (.int .i64 0) b2
    have e4 := blk_cells (i := 1) b3 rfl
    have e5 := blk_fz b3 1
    have b4 := heap_set (i := 1) (.slice none 0 0) b3
    have fS := (frm_set w2 (s + 1) 0 (.int .i64 0)).trans (frm_set _ (s + 1) 1 (.slice none 0 0)) (fun _ _ e => e)
    go_wp2_with fail
    have fS2 : Hid (Frm (fun q => q = s + 1) w2 ((w2.setCell ⟨s + 1, 0, none⟩ (.int .i64 0)).setCell ⟨s + 1, 1, none⟩ (.slice none 0 0))) := fS
    have kb4 := hid b4
    clear fS b3 b4 e0 e1 e4 e5
    generalize (w2.setCell ⟨s + 1, 0, none⟩ (.int .i64 0)).setCell ⟨s + 1, 1, none⟩ (.slice none 0 0) = Z at *
    have q0 := blk_cells (v := .int .i64 0) (i := 0) kb4.out rfl
    have q1 := blk_cells (v := .slice none 0 0) (i := 1) kb4.out rfl
    refine bodyPost_ret (v := .tuple #[.agg #[.int .i64 0, .slice none 0 0], .int .i64 (wiE gd B k)]) ?_ rfl ?_
    · simp [results, Tryd.f28, go_sem, q0, q1]
    · exact ⟨Frm.trans ko2.out fS2.out (fun i hi e => by omega), .inl ⟨kw.out, rfl⟩⟩
  · have ko2 := hid (ko.out.trans o2)
    have kw := hid hw
    have kI := hid hI
    have kg : Hid (s + 1 < g) := by have := kzR.out; show _ < _; omega
    clear hw hI hg
    have b2 := (o2.block _ (blk_lt kbR.out) (fun h => h)).trans kbR.out
    have e0 := blk_cells (i := 0) b2 rfl
    have e1 := blk_fz b2 0
    have b3 := heap_set (i := 0) (.int .i64 gd) b2
    have e4 := blk_cells (i := 1) b3 rfl
    have e5 := blk_fz b3 1
    have b4 := heap_set (i := 1) (.slice (some ⟨g, 0, none⟩) B.length B.length) b3
    have fS := (frm_set w2 (s + 1) 0 (.int .i64 gd)).trans (frm_set _ (s + 1) 1 (.slice (some ⟨g, 0, none⟩) B.length B.length)) (fun _ _ e => e)
    go_wp2_with fail
    have fS2 : Hid (Frm (fun q => q = s + 1) w2 ((w2.setCell ⟨s + 1, 0, none⟩ (.int .i64 gd)).setCell ⟨s + 1, 1, none⟩ (.slice (some ⟨g, 0, none⟩) B.length B.length))) := fS
    have kb4 := hid b4
    clear fS b3 b4 e0 e1 e4 e5
    generalize (w2.setCell ⟨s + 1, 0, none⟩ (.int .i64 gd)).setCell ⟨s + 1, 1, none⟩ (.slice (some ⟨g, 0, none⟩) B.length B.length) = Z at *
    have q0 := blk_cells (v := .int .i64 gd) (i := 0) kb4.out rfl
    have q1 := blk_cells (v := .slice (some ⟨g, 0, none⟩) B.length B.length) (i := 1) kb4.out rfl
    refine bodyPost_ret (v := .tuple #[.agg #[.int .i64 gd, .slice (some ⟨g, 0, none⟩) B.length B.length], .int .i64 0]) ?_ rfl ?_
    · simp [results, Tryd.f28, go_sem, q0, q1]
    · have := kg.out
      exact ⟨Frm.trans ko2.out fS2.out (fun i hi e => by omega), .inr ⟨kw.out, g, rfl, by omega, fun Y hY => kI.out Y (Frm.trans (Frm.mono fS2.out (fun _ _ e => by omega)) hY (fun _ _ e => e))⟩⟩

/-- Without a buyer: the instance, the error. -/
def woB (B : Ins) (k : Int) : Ins := B.set k.toNat []
def woE (gd : Int) (B : Ins) (k : Int) : Int := if wiE gd B k ≠ 0 then wiE gd B k else ckZ gd (woB B k) 0 (allZ gd).1
def woW (gd : Int) (B : Ins) (k : Int) : Int := if wiE gd B k ≠ 0 then 0 else frZ gd (woB B k) 0 (allZ gd).1
def woC (gd : Int) (B : Ins) (k : Int) : List Int := if wiE gd B k ≠ 0 then [] else ptC gd (woB B k) 0 (allZ gd).1

set_option maxRecDepth 100000 in
set_option maxHeartbeats 4000000 in
theorem without_any (gd : Int) (bo : Option Addr) (cap : Nat) (B : Ins) (k : Int) (w : World) (h : InsC w bo B) (hV : InsV w bo B) (hl : B.length ≤ 9223372036854775807) (hT : Tabs w) :
    Calls Tryd.prog 19 #[.agg #[.int .i64 gd, .slice bo B.length cap], .int .i64 k] w fun e w' => ∃ v, e = .returned (.tuple #[.agg #[v, .int .i64 (woW gd B k)], .int .i64 (woE gd B k)]) ∧ NewZ w.heap.size w' v (woC gd B k) ∧ Old w w' := by
  have o1 : Old w (w.alloc (.cells #[.int .i64 gd, .slice bo B.length cap] 24)) := (Old.refl w).alloc _
  have oR : Old (w.alloc (.cells #[.int .i64 gd, .slice bo B.length cap] 24)) ((w.alloc (.cells #[.int .i64 gd, .slice bo B.length cap] 24)).alloc (.cells #[.slice none 0 0, .int .i64 0] 52)) := (Old.refl _).alloc _
  have b1 := heap_new w (.cells #[.int .i64 gd, .slice bo B.length cap] 24)
  have b1 := (oR.block _ (blk_lt b1) (fun h => h)).trans b1
  have bR := heap_new (w.alloc (.cells #[.int .i64 gd, .slice bo B.length cap] 24)) (.cells #[.slice none 0 0, .int .i64 0] 52)
  rw [alloc_size] at bR
  have zR : ((w.alloc (.cells #[.int .i64 gd, .slice bo B.length cap] 24)).alloc (.cells #[.slice none 0 0, .int .i64 0] 52)).heap.size = w.heap.size + 1 + 1 := by rw [alloc_size, alloc_size]
  have ko := hid (o1.trans oR)
  have kbR := hid bR
  have kb1 := hid b1
  have kzR := hid zR
  have kW := hid (fun V (o : Old w V) => owithout_any gd bo cap B k V (h.old o) (hV.old o) hl)
  have kT := hid hT
  obtain ⟨s, hs⟩ : ∃ s, w.heap.size = s := ⟨_, rfl⟩
  rw [hs] at kbR kzR kb1
  have c0 := blk_cells (i := 0) kb1.out rfl
  have c1 := blk_cells (i := 1) kb1.out rfl
  simp only [List.getElem_toArray, List.getElem_cons_zero, List.getElem_cons_succ] at c0 c1
  clear h hV o1 oR bR zR hT b1
  go_enter Tryd.func19, Tryd.ntmps19
  go_wp2_with fail
  refine (kW.out _ ko.out).mono ?_
  rintro e w1 ⟨o1, hcase⟩
  have ko1 := hid (ko.out.trans o1)
  have kb11 := hid ((o1.block _ (blk_lt kb1.out) (fun h => h)).trans kb1.out)
  have kbR := hid ((o1.block _ (blk_lt kbR.out) (fun h => h)).trans kbR.out)
  clear c0 c1 kW
  rcases hcase with ⟨hw, rfl⟩ | ⟨hw, g, rfl, hg, hI⟩
  · have kw := hid hw
    have hwb : (wiE gd B k != 0) = true := by simpa using hw
    have k1 : Hid (woE gd B k = wiE gd B k) := if_pos hw
    have k2 : Hid (woW gd B k = 0) := if_pos hw
    have k3 : Hid (woC gd B k = []) := if_pos hw
    have d0 := blk_cells (i := 0) kb11.out rfl
    have d1 := blk_fz kb11.out 0
    have b5 := heap_set (i := 0) (.int .i64 0) kb11.out
    have d2 := blk_cells (i := 1) b5 rfl
    have d3 := blk_fz b5 1
    have b6 := heap_set (i := 1) (.slice none 0 0) b5
    have d4 := blk_cells (v := .int .i64 0) (i := 0) b6 rfl
    have d5 := blk_cells (v := .slice none 0 0) (i := 1) b6 rfl
    have fX := (frm_set w1 s 0 (.int .i64 0)).trans (frm_set _ s 1 (.slice none 0 0)) (fun _ _ e => e)
    have kfX : Hid (Frm (fun q => q = s) w1 ((w1.setCell ⟨s, 0, none⟩ (.int .i64 0)).setCell ⟨s, 1, none⟩ (.slice none 0 0))) := fX
    have kbR := hid ((kfX.out.block (s + 1) (blk_lt kbR.out) (by omega)).trans kbR.out)
    clear fX b5 b6
    have e0 := blk_cells (i := 0) kbR.out rfl
    have e1 := blk_fz kbR.out 0
    have b3 := heap_set (i := 0) (.slice none 0 0) kbR.out
    have e4 := blk_cells (i := 1) b3 rfl
    have e5 := blk_fz b3 1
    have b4 := heap_set (i := 1) (.int .i64 0) b3
    have fS := (frm_set ((w1.setCell ⟨s, 0, none⟩ (.int .i64 0)).setCell ⟨s, 1, none⟩ (.slice none 0 0)) (s + 1) 0 (.slice none 0 0)).trans (frm_set _ (s + 1) 1 (.int .i64 0)) (fun _ _ e => e)
    go_wp2_with fail
    have fS2 : Hid (Frm (fun q => q = s + 1) ((w1.setCell ⟨s, 0, none⟩ (.int .i64 0)).setCell ⟨s, 1, none⟩ (.slice none 0 0)) ((((w1.setCell ⟨s, 0, none⟩ (.int .i64 0)).setCell ⟨s, 1, none⟩ (.slice none 0 0)).setCell ⟨s + 1, 0, none⟩ (.slice none 0 0)).setCell ⟨s + 1, 1, none⟩ (.int .i64 0))) := fS
    have kb4 := hid b4
    clear fS b3 b4 e0 e1 e4 e5
    generalize (((w1.setCell ⟨s, 0, none⟩ (.int .i64 0)).setCell ⟨s, 1, none⟩ (.slice none 0 0)).setCell ⟨s + 1, 0, none⟩ (.slice none 0 0)).setCell ⟨s + 1, 1, none⟩ (.int .i64 0) = Z at *
    have q0 := blk_cells (v := .slice none 0 0) (i := 0) kb4.out rfl
    have q1 := blk_cells (v := .int .i64 0) (i := 1) kb4.out rfl
    refine bodyPost_ret (v := .tuple #[.agg #[.slice none 0 0, .int .i64 0], .int .i64 (wiE gd B k)]) ?_ rfl ?_
    · simp [results, Tryd.f19, go_sem, q0, q1]
    · refine ⟨.slice none 0 0, by rw [k1.out, k2.out], by rw [k3.out]; exact ⟨none, 0, rfl, .inl ⟨rfl, rfl⟩⟩, Frm.trans (Frm.trans ko1.out kfX.out (fun i hi e => by omega)) fS2.out (fun i hi e => by omega)⟩
  · have kw := hid hw
    have k1 : Hid (woE gd B k = ckZ gd (woB B k) 0 (allZ gd).1) := if_neg (by simp [hw])
    have k2 : Hid (woW gd B k = frZ gd (woB B k) 0 (allZ gd).1) := if_neg (by simp [hw])
    have k3 : Hid (woC gd B k = ptC gd (woB B k) 0 (allZ gd).1) := if_neg (by simp [hw])
    have kg : Hid (s + 1 < g) := by have := kzR.out; show _ < _; omega
    have kI := hid hI
    have hBl : (woB B k).length = B.length := List.length_set
    clear hw hI hg
    have d0 := blk_cells (i := 0) kb11.out rfl
    have d1 := blk_fz kb11.out 0
    have b5 := heap_set (i := 0) (.int .i64 gd) kb11.out
    have d2 := blk_cells (i := 1) b5 rfl
    have d3 := blk_fz b5 1
    have b6 := heap_set (i := 1) (.slice (some ⟨g, 0, none⟩) B.length B.length) b5
    have d4 := blk_cells (v := .int .i64 gd) (i := 0) b6 rfl
    have d5 := blk_cells (v := .slice (some ⟨g, 0, none⟩) B.length B.length) (i := 1) b6 rfl
    have fX := (frm_set w1 s 0 (.int .i64 gd)).trans (frm_set _ s 1 (.slice (some ⟨g, 0, none⟩) B.length B.length)) (fun _ _ e => e)
    have kfX : Hid (Frm (fun q => q = s) w1 ((w1.setCell ⟨s, 0, none⟩ (.int .i64 gd)).setCell ⟨s, 1, none⟩ (.slice (some ⟨g, 0, none⟩) B.length B.length))) := fX
    have kbR := hid ((kfX.out.block (s + 1) (blk_lt kbR.out) (by omega)).trans kbR.out)
    clear fX b5 b6
    have kow : Hid (Old w ((w1.setCell ⟨s, 0, none⟩ (.int .i64 gd)).setCell ⟨s, 1, none⟩ (.slice (some ⟨g, 0, none⟩) B.length B.length))) := Frm.trans ko1.out kfX.out (fun i hi e => by omega)
    have kIx := hid (kI.out _ (Frm.mono kfX.out (fun i hi e => by have := kg.out; omega)))
    have kBe := hid (best_any gd (some ⟨g, 0, none⟩) B.length (woB B k) ((w1.setCell ⟨s, 0, none⟩ (.int .i64 gd)).setCell ⟨s, 1, none⟩ (.slice (some ⟨g, 0, none⟩) B.length B.length)) kIx.out (by rw [hBl]; exact Nat.le_refl _) (by rw [hBl]; exact hl) (kT.out.old kow.out))
    rw [hBl] at kBe
    go_wp2_with fail
    generalize (w1.setCell ⟨s, 0, none⟩ (.int .i64 gd)).setCell ⟨s, 1, none⟩ (.slice (some ⟨g, 0, none⟩) B.length B.length) = w2 at *
    refine kBe.out.mono ?_
    rintro e w3 ⟨v, rfl, hz, o3⟩
    have hz := hz.up kow.out.size
    obtain ⟨ao, c, hv, -⟩ := id hz
    subst hv
    have kz := hid hz
    have kbR := hid ((o3.block (s + 1) (blk_lt kbR.out) (fun h => h)).trans kbR.out)
    have ko3 := hid (kow.out.trans o3)
    generalize ptC gd (woB B k) 0 (allZ gd).1 = C at *
    generalize frZ gd (woB B k) 0 (allZ gd).1 = z at *
    generalize ckZ gd (woB B k) 0 (allZ gd).1 = y at *
    clear hz o3 kBe kIx kI d4 d5
    have e0 := blk_cells (i := 0) kbR.out rfl
    have e1 := blk_fz kbR.out 0
    have b3 := heap_set (i := 0) (.slice ao C.length c) kbR.out
    have e4 := blk_cells (i := 1) b3 rfl
    have e5 := blk_fz b3 1
    have b4 := heap_set (i := 1) (.int .i64 z) b3
    have fS := (frm_set (w3) (s + 1) 0 (.slice ao C.length c)).trans (frm_set _ (s + 1) 1 (.int .i64 z)) (fun _ _ e => e)
    go_wp2_with fail
    have fS2 : Hid (Frm (fun q => q = s + 1) (w3) (((w3).setCell ⟨s + 1, 0, none⟩ (.slice ao C.length c)).setCell ⟨s + 1, 1, none⟩ (.int .i64 z))) := fS
    have kb4 := hid b4
    clear fS b3 b4 e0 e1 e4 e5
    generalize ((w3).setCell ⟨s + 1, 0, none⟩ (.slice ao C.length c)).setCell ⟨s + 1, 1, none⟩ (.int .i64 z) = Z at *
    have q0 := blk_cells (v := .slice ao C.length c) (i := 0) kb4.out rfl
    have q1 := blk_cells (v := .int .i64 z) (i := 1) kb4.out rfl
    refine bodyPost_ret (v := .tuple #[.agg #[.slice ao C.length c, .int .i64 z], .int .i64 y]) ?_ rfl ?_
    · simp [results, Tryd.f19, go_sem, q0, q1]
    · exact ⟨_, by rw [k1.out, k2.out], by rw [k3.out]; exact kz.out.frm5 fS2.out kbR.out (by decide), Frm.trans ko3.out fS2.out (fun i hi e => by omega)⟩
end Go.Proofs.YtgikkbkgmjacmaaDoor
