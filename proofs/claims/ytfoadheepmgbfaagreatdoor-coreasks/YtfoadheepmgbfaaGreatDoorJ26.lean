/- Who blocks payments, the least, tight ones: walked. -/
import Derived.Test.YtfoadheepmgbfaaGreatDoorJ24
import Derived.Test.YtfoadheepmgbfaaGreatDoorJ25
import Derived.Test.YtfoadheepmgbfaaGreatDoorJ16
namespace Go.Proofs.YtfoadheepmgbfaaGreatDoor
open Go.RowKit Go.Lib Go.Shelf
attribute [local go_sem] Oper.semAt_some

theorem LeP.mem2 : ∀ {C P Q : List Int}, LeP C P Q → (∀ x ∈ C, x ≤ 1099511627776) → ∀ x ∈ Q, 0 ≤ x ∧ x ≤ 1099511627776
  | [], [], [], _, _, x, hx => by cases hx
  | c :: C, p :: P, q :: Q, h, hC, x, hx => by
    have h1 := hC c (by simp)
    have h2 := h.1
    rcases List.mem_cons.1 hx with rfl | hx
    · omega
    · exact LeP.mem2 h.2 (fun x hx => hC x (by simp [hx])) x hx
theorem won_mem {gd : Int} {B : Ins} (hz : insZ gd B = 0) (hlt : ∀ l ∈ B, ∀ x ∈ l, x.1 < 4294967296) : ∀ x ∈ wonL B (cosC gd B), 0 ≤ x ∧ x ≤ 1099511627776 := fun x hx => by
  unfold wonL at hx
  rw [List.mem_map] at hx
  obtain ⟨i, hi, rfl⟩ := hx
  exact (win_of hz hlt).coin (by simpa using hi)
theorem payB_of {gd : Int} {B : Ins} {P : List Int} (hz : insZ gd B = 0) (hlt : ∀ l ∈ B, ∀ x ∈ l, x.1 < 4294967296) (h : LeP (wonL B (cosC gd B)) (wonL B (cosC gd B)) P) : PayB B (wonL B (cosC gd B)) P := by
  have tp := tops_of hz hlt
  have hl := h.len
  rw [won_len] at hl
  exact ⟨won_len _ _, hl.2, tp.len, tp.eight, fun l hl x hx => (tp.coins l hl x hx).2, hlt, won_mem hz hlt, h.mem2 (fun x hx => (won_mem hz hlt x hx).2)⟩
theorem pyZ_zero {gd : Int} {B : Ins} {P : List Int} (h : pyZ gd B P = 0) : insZ gd B = 0 ∧ LeP (wonL B (cosC gd B)) (wonL B (cosC gd B)) P := by
  unfold pyZ at h
  by_cases hz : insZ gd B = 0
  · rw [if_neg (by simp [hz])] at h
    by_cases h2 : P.length = B.length ∧ paB (wonL B (cosC gd B)) P B.length = true
    · exact ⟨hz, paB_le (by rw [won_len]; exact h2.1) (by rw [won_len]; exact h2.2)⟩
    · rw [if_neg h2] at h
      cases h
  · rw [if_pos hz] at h
    exact absurd h hz
theorem pyZ_of {gd : Int} {B : Ins} {P : List Int} (hz : insZ gd B = 0) (h : LeP (wonL B (cosC gd B)) (wonL B (cosC gd B)) P) : pyZ gd B P = 0 := by
  unfold pyZ
  have hl := h.len
  rw [won_len] at hl
  rw [if_neg (by simp [hz]), if_pos ⟨hl.2, by have := (paB_iff (by rw [won_len]; exact hl.2)).2 h; rwa [won_len] at this⟩]

/-- What Blocks answers. -/
def BksP (gd : Int) (B : Ins) (P : List Int) (w : World) (e : Ending) (w' : World) : Prop := Old w w' ∧ ((pyZ gd B P ≠ 0 ∧ e = .returned (.tuple #[.agg #[.slice none 0 0, .int .i64 0], .bool false, .int .i64 (pyZ gd B P)])) ∨ (pyZ gd B P = 0 ∧ best (lowI B (wonL B (cosC gd B)) P) (allZ gd).1 ≤ P.sum ∧ e = .returned (.tuple #[.agg #[.slice none 0 0, .int .i64 0], .bool false, .int .i64 0])) ∨ (pyZ gd B P = 0 ∧ P.sum < best (lowI B (wonL B (cosC gd B)) P) (allZ gd).1 ∧ ∃ v, e = .returned (.tuple #[.agg #[v, .int .i64 (best (lowI B (wonL B (cosC gd B)) P) (allZ gd).1 - P.sum)], .bool true, .int .i64 0]) ∧ NewZ w.heap.size w' v (bkL gd B (wonL B (cosC gd B)) P)))


set_option maxRecDepth 100000 in
set_option maxHeartbeats 8000000 in
theorem blocks_any (gd : Int) (bo po : Option Addr) (cap pc : Nat) (B : Ins) (P : List Int) (w : World) (h : InsC w bo B) (hcap : B.length ≤ cap) (hl : B.length ≤ 9223372036854775807) (hP : NumsC .i64 w po P) (hT : Tabs w) :
    Calls Tryz.prog 7 #[.agg #[.int .i64 gd, .slice bo B.length cap], .slice po P.length pc] w (BksP gd B P w) := by
  have o1 : Old w (w.alloc (.cells #[.int .i64 gd, .slice bo B.length cap] 24)) := (Old.refl w).alloc _
  have b1 := heap_new w (.cells #[.int .i64 gd, .slice bo B.length cap] 24)
  have z1 := alloc_size w (.cells #[.int .i64 gd, .slice bo B.length cap] 24)
  have o2 : Old (w.alloc (.cells #[.int .i64 gd, .slice bo B.length cap] 24)) ((w.alloc (.cells #[.int .i64 gd, .slice bo B.length cap] 24)).alloc (.cells #[.slice none 0 0, .int .i64 0] 31)) := (Old.refl _).alloc _
  have b2 := heap_new (w.alloc (.cells #[.int .i64 gd, .slice bo B.length cap] 24)) (.cells #[.slice none 0 0, .int .i64 0] 31)
  obtain ⟨s, hs⟩ : ∃ s, w.heap.size = s := ⟨_, rfl⟩
  have kss := hid hs
  rw [hs] at b1 z1
  rw [z1] at b2
  have b1 := (o2.block s (blk_lt b1) (fun h => h)).trans b1
  have x0 := blk_cells (i := 0) b1 rfl
  have x1 := blk_cells (i := 1) b1 rfl
  simp only [qqa, qqb, qqc] at x0 x1
  have kbR := hid b2
  have ko := hid (o1.trans o2)
  have kh := hid h
  have kP := hid hP
  have kT := hid hT
  have kC := hid (fun V (o : Old w V) => paying_any gd bo po cap pc B P V (h.old o) hcap hl (hP.old o) (hT.old o))
  have klt := hid (ins_lt h)
  clear o1 o2 b1 b2 z1 h hT hP
  go_enter Tryz.func7, Tryz.ntmps7
  go_upto_region 1 with fail
  generalize (w.alloc (.cells #[.int .i64 gd, .slice bo B.length cap] 24)).alloc (.cells #[.slice none 0 0, .int .i64 0] 31) = w1 at *
  go_wp2_with fail
  refine (kC.out _ ko.out).mono ?_
  rintro e w2 ⟨o2, h2⟩
  have kbR := hid ((o2.block _ (blk_lt kbR.out) (fun h => h)).trans kbR.out)
  have ko2 := hid (ko.out.trans o2)
  obtain ⟨hz, y, rfl, hy⟩ | ⟨hz, rfl⟩ := h2
  · have hy := hy.up ko.out.size
    obtain ⟨hz0, hle⟩ := pyZ_zero hz
    have kpb := hid (payB_of hz0 klt.out hle)
    obtain ⟨ca, cc, rfl, -⟩ := id hy
    have kwl := hid (won_len B (cosC gd B))
    obtain ⟨A, hA⟩ : ∃ A, wonA gd (.slice bo B.length cap) (cosC gd B) (.slice ca (wonL B (cosC gd B)).length cc) = A := ⟨_, rfl⟩
    have kAi : Hid ((Tryz.prog.info? 65).map (·.size) = some A.size) := by rw [← hA]; exact wonA_info ..
    have kAs : Hid (A.size = 35) := by rw [← hA]; exact wonA_size ..
    have kA1 : Hid (A.all (·.oneCell') = true) := by rw [← hA]; exact wonA_one _ _ _ _ rfl rfl
    have q2 : Old w2 (w2.alloc (.cells A 65)) := (Old.refl w2).alloc _
    have b2 := heap_new w2 (.cells A 65)
    have kbR := hid ((q2.block _ (blk_lt kbR.out) (fun h => h)).trans kbR.out)
    have ko3 := hid (ko2.out.trans q2)
    have hyN := (hy.old q2).nums
    have kBl := hid (block_any gd bo ca po cap cc pc B (cosC gd B) (wonL B (cosC gd B)) P (w2.alloc (.cells A 65)) ⟨kh.out.old ko3.out, hyN, kP.out.old ko3.out⟩ kpb.out hz0 (kT.out.old ko3.out))
    rw [hA] at kBl
    rw [hA]
    have kb2 := hid b2
    have khz := hid hz
    clear hA q2 b2 x0 x1 o2 hyN hy hz hz0 hle
    go_upto_region 2 with (refine wpList_store_row rfl 65 _ _ rfl w2.heap.size _ rfl rfl 65 _ (heap_new w2 _) kAi.out (by rw [kAs.out]; rfl) kA1.out ?_)
    rw [World.setRow_alloc_new]
    generalize w2.alloc (.cells A 65) = w3 at *
    generalize w2.heap.size = wb at *
    go_upto_region 4 with fail
    refine wp_region_lit ?_
    refine wpList_load_row rfl 65 _ rfl wb rfl 65 _ (0, 0) _ kb2.out Tryz.underlying65 rfl kAi.out ?_
    simp only [Act.put, qqd, qqe, qqf]
    go_wp2_with fail
    refine kBl.out.mono ?_
    rintro e w4 ⟨o4, h4⟩
    have kbR := hid ((o4.block _ (blk_lt kbR.out) (fun h => h)).trans kbR.out)
    have ko4 := hid (ko3.out.trans o4)
    obtain ⟨hle, rfl⟩ | ⟨hlt, v, rfl, hv⟩ := h4
    · have q5 : Old w4 (w4.alloc (.cells #[.slice none 0 0, .int .i64 0] 31)) := (Old.refl w4).alloc _
      have y0 := new_cell w4 #[.slice none 0 0, .int .i64 0] 31 0 _ rfl
      have y1 := new_cell w4 #[.slice none 0 0, .int .i64 0] 31 1 _ rfl
      simp only [qqa, qqb, qqc] at y0 y1
      have kbR := hid ((q5.block _ (blk_lt kbR.out) (fun h => h)).trans kbR.out)
      have ko5 := hid (ko4.out.trans q5)
      clear q5 o4
      go_upto_region 5 with fail
      generalize w4.alloc (.cells #[.slice none 0 0, .int .i64 0] 31) = w5 at *
      have e0 := blk_cells (i := 0) (v := .slice none 0 0) kbR.out rfl
      have f0 := blk_fz kbR.out 0
      have b6 := heap_set (i := 0) (.slice none 0 0) kbR.out
      have e1 := blk_cells (i := 1) (v := .int .i64 0) b6 rfl
      have f1 := blk_fz b6 1
      have b7 := heap_set (i := 1) (.int .i64 0) b6
      have kfS : Hid (Frm (fun q => q = s + 1) w5 ((w5.setCell ⟨s + 1, 0, none⟩ (.slice none 0 0)).setCell ⟨s + 1, 1, none⟩ (.int .i64 0))) := (frm_set w5 (s + 1) 0 (.slice none 0 0)).trans (frm_set _ (s + 1) 1 (.int .i64 0)) (fun _ _ e => e)
      have kb7 := hid b7
      clear b6 b7
      go_wp2_with fail
      generalize (w5.setCell ⟨s + 1, 0, none⟩ (.slice none 0 0)).setCell ⟨s + 1, 1, none⟩ (.int .i64 0) = Z at *
      have q0 := blk_cells (v := .slice none 0 0) (i := 0) kb7.out rfl
      have q1 := blk_cells (v := .int .i64 0) (i := 1) kb7.out rfl
      refine bodyPost_ret (v := .tuple #[.agg #[.slice none 0 0, .int .i64 0], .bool false, .int .i64 0]) ?_ rfl ?_
      · simp [results, Tryz.f7, go_sem, q0, q1]
      · exact ⟨Frm.trans ko5.out kfS.out (fun i hi e => by have := kss.out; omega), .inr (.inl ⟨khz.out, hle, rfl⟩)⟩
    · obtain ⟨va, vc, rfl, -⟩ := id hv
      obtain ⟨mz, hmz⟩ : ∃ mz, best (lowI B (wonL B (cosC gd B)) P) (allZ gd).1 - P.sum = mz := ⟨_, rfl⟩
      rw [hmz]
      have kmz := hid hmz
      obtain ⟨L, hL⟩ : ∃ L, bkL gd B (wonL B (cosC gd B)) P = L := ⟨_, rfl⟩
      rw [hL] at hv ⊢
      have kLe := hid hL
      have q5 : Old w4 (w4.alloc (.cells #[.slice va L.length vc, .int .i64 mz] 31)) := (Old.refl w4).alloc _
      have y0 := new_cell w4 #[.slice va L.length vc, .int .i64 mz] 31 0 _ rfl
      have y1 := new_cell w4 #[.slice va L.length vc, .int .i64 mz] 31 1 _ rfl
      simp only [qqa, qqb, qqc] at y0 y1
      have kbR := hid ((q5.block _ (blk_lt kbR.out) (fun h => h)).trans kbR.out)
      have ko5 := hid (ko4.out.trans q5)
      have kv := hid ((hv.up ko3.out.size).old q5)
      have klt2 := hid hlt
      clear q5 o4 hv hmz hL hlt
      go_upto_region 5 with fail
      generalize w4.alloc (.cells #[.slice va L.length vc, .int .i64 mz] 31) = w5 at *
      have e0 := blk_cells (i := 0) (v := .slice none 0 0) kbR.out rfl
      have f0 := blk_fz kbR.out 0
      have b6 := heap_set (i := 0) (.slice va L.length vc) kbR.out
      have e1 := blk_cells (i := 1) (v := .int .i64 0) b6 rfl
      have f1 := blk_fz b6 1
      have b7 := heap_set (i := 1) (.int .i64 mz) b6
      have kfS : Hid (Frm (fun q => q = s + 1) w5 ((w5.setCell ⟨s + 1, 0, none⟩ (.slice va L.length vc)).setCell ⟨s + 1, 1, none⟩ (.int .i64 mz))) := (frm_set w5 (s + 1) 0 (.slice va L.length vc)).trans (frm_set _ (s + 1) 1 (.int .i64 mz)) (fun _ _ e => e)
      have kb7 := hid b7
      clear b6 b7
      go_wp2_with fail
      generalize (w5.setCell ⟨s + 1, 0, none⟩ (.slice va L.length vc)).setCell ⟨s + 1, 1, none⟩ (.int .i64 mz) = Z at *
      have q0 := blk_cells (v := .slice va L.length vc) (i := 0) kb7.out rfl
      have q1 := blk_cells (v := .int .i64 mz) (i := 1) kb7.out rfl
      refine bodyPost_ret (v := .tuple #[.agg #[.slice va L.length vc, .int .i64 mz], .bool true, .int .i64 0]) ?_ rfl ?_
      · simp [results, Tryz.f7, go_sem, q0, q1]
      · refine ⟨Frm.trans ko5.out kfS.out (fun i hi e => by have := kss.out; omega), .inr (.inr ⟨khz.out, klt2.out, _, by rw [kmz.out], ?_⟩)⟩
        rw [kLe.out]
        exact kv.out.frm5 kfS.out kbR.out (by decide)
  · have hzb : (pyZ gd B P != 0) = true := by simpa using hz
    have khz := hid hz
    have q2 : Old w2 (w2.alloc (.cells (wonA 0 nilS [] nilS) 65)) := (Old.refl w2).alloc _
    clear hz x0 x1 o2
    go_upto_region 2 with (refine wpList_store_row rfl 65 _ _ rfl w2.heap.size _ rfl rfl 65 _ (heap_new w2 _) (wonA_info ..) (by rw [wonA_size]; rfl) (wonA_one _ _ _ _ rfl rfl) ?_)
    rw [World.setRow_alloc_new]
    have kbR := hid ((q2.block _ (blk_lt kbR.out) (fun h => h)).trans kbR.out)
    have ko3 := hid (ko2.out.trans q2)
    generalize w2.alloc (.cells (wonA 0 nilS [] nilS) 65) = w3 at *
    clear q2
    have e0 := blk_cells (i := 0) (v := .slice none 0 0) kbR.out rfl
    have f0 := blk_fz kbR.out 0
    have b6 := heap_set (i := 0) (.slice none 0 0) kbR.out
    have e1 := blk_cells (i := 1) (v := .int .i64 0) b6 rfl
    have f1 := blk_fz b6 1
    have b7 := heap_set (i := 1) (.int .i64 0) b6
    have kfS : Hid (Frm (fun q => q = s + 1) w3 ((w3.setCell ⟨s + 1, 0, none⟩ (.slice none 0 0)).setCell ⟨s + 1, 1, none⟩ (.int .i64 0))) := (frm_set w3 (s + 1) 0 (.slice none 0 0)).trans (frm_set _ (s + 1) 1 (.int .i64 0)) (fun _ _ e => e)
    have kb7 := hid b7
    clear b6 b7
    go_wp2_with fail
    generalize (w3.setCell ⟨s + 1, 0, none⟩ (.slice none 0 0)).setCell ⟨s + 1, 1, none⟩ (.int .i64 0) = Z at *
    have q0 := blk_cells (v := .slice none 0 0) (i := 0) kb7.out rfl
    have q1 := blk_cells (v := .int .i64 0) (i := 1) kb7.out rfl
    refine bodyPost_ret (v := .tuple #[.agg #[.slice none 0 0, .int .i64 0], .bool false, .int .i64 (pyZ gd B P)]) ?_ rfl ?_
    · simp [results, Tryz.f7, go_sem, q0, q1]
    · exact ⟨Frm.trans ko3.out kfS.out (fun i hi e => by have := kss.out; omega), .inl ⟨khz.out, rfl⟩⟩
end Go.Proofs.YtfoadheepmgbfaaGreatDoor

/- A range over a function that tells of things in new memory, whose variable lies in no box. -/
namespace Go.Proofs.YtfoadheepmgbfaaGreatDoor
open Go.RowKit Go.Lib Go.Shelf

theorem range_Mp {α : Type} {P : Program} {n : Nat} {g : Operand} {ps : Array Tmp} {assign body : Code} {Q : Exit → Act → World → Prop} {a : Act} {w : World} (hn : 1 ≤ n) {gf : Nat} {lb : Array Value}
    (hg : a.eval g = .func (.func gf) #[] lb) (eg : ∀ args w, (callFunc gf args).run P w = .ok (.enter gf args) w) {enc : α → Array Value} {M : Nat → Prop} {Kp : α → World → World → Prop} {Told : α → World → Prop} {Own : World → Prop} {Fr : List α → Nat → Prop} {Pre S Sp : List α → Prop}
    (hseq : SeqM P (n - 1) gf lb enc M Kp Told Own Fr Pre S Sp w) (hOw : ∀ (W : World) (o o' : Obj), Own W → W.heap[w.heap.size + 1]? = some o → o.isCells = false → Own (W.putObj (w.heap.size + 1) o')) (hM : ∀ k, M k → k < w.heap.size) (hKt : ∀ {x : α} {A B D : World}, Kp x A B → Kp x B D → Kp x A D) (hKr : ∀ (x : α) (W : World), Kp x W W)
    (hKb : ∀ (x : α) (W : World) (o o' : Obj), W.heap[w.heap.size + 1]? = some o → o.isCells = false → Kp x W (W.putObj (w.heap.size + 1) o')) (hTo : ∀ (x : α) (W : World) (o o' : Obj), Told x W → W.heap[w.heap.size + 1]? = some o → o.isCells = false → Told x (W.putObj (w.heap.size + 1) o')) (hps : ∀ x, (enc x).size = ps.size)
    (I : List α → World → Prop) (Ix : Code → List α → World → Prop)
    (hI : ∀ p X Y, I p X → Frm (fun k => M k ∨ (w.heap.size ≤ k ∧ Fr p k)) X Y → I p Y) (hIx : ∀ c p X Y, Ix c p X → Frm (fun k => M k ∨ (w.heap.size ≤ k ∧ Fr p k)) X Y → Ix c p Y)
    (pI : ∀ (p : List α) (X : World) (o o' : Obj), I p X → X.heap[w.heap.size + 1]? = some o → o.isCells = false → I p (X.putObj (w.heap.size + 1) o')) (pX : ∀ (c : Code) (p : List α) (X : World) (o o' : Obj), Ix c p X → X.heap[w.heap.size + 1]? = some o → o.isCells = false → Ix c p (X.putObj (w.heap.size + 1) o')) (h0 : I [] w) (upd : α → Array Value → Array Value)
    (hassign : ∀ (l : Nat) (p : List α) (x : α) (W : World) (K : Act → World → Prop), Pre (p ++ [x]) → Told x W → K { tmps := upd x a.tmps, defers := [] } W → assign.wpIn (Fence.wide.inRound l) (n - 1 - 1) P (Exit.then K (fun _ _ _ => False)) { tmps := (ps.zip (enc x)).foldl (fun t (p, v) => t.setIfInBounds p v) a.tmps, defers := [] } W)
    (hbody : ∀ (l : Nat) (p : List α) (x : α) (W : World), I p W → Pre (p ++ [x]) → Told x W → w.heap.size + 2 ≤ W.heap.size → body.wpIn (Fence.wide.inRound l) (n - 1 - 1) P (ownPostM w.heap.size (Kp x) I Ix (p ++ [x]) W) { tmps := upd x a.tmps, defers := [] } W)
    (hdone : ∀ (D : Nat) (q : List α) (W : World), w.heap.size = D → S q → I q W → Own W → W.heap[D]? = some (.deferred (some [])) → Q .normal { a with defers := { target := .collected D, args := #[] } :: a.defers } W)
    (hstop : ∀ (D : Nat) (c : Code) (p : List α) (W : World), w.heap.size = D → Sp p → Ix c p W → Own W → W.heap[D]? = some (.deferred (some [])) → c.wpIn Fence.wide n P Q { a with defers := { target := .collected D, args := #[] } :: a.defers } W) :
    (Code.rangeFunc g ps assign body).wpIn Fence.wide n P Q a w :=
  range_M hn hg eg hseq hOw hM hKt hKb hps I Ix hI hIx pI pX h0 (fun p x a' W => I p W ∧ Pre (p ++ [x]) ∧ Told x W ∧ w.heap.size + 2 ≤ W.heap.size ∧ a' = { tmps := upd x a.tmps, defers := [] })
    (fun p x a' W o o' ⟨h1, h2, h3, h4, h5⟩ ho hc => ⟨pI _ _ _ _ h1 ho hc, h2, hTo _ _ _ _ h3 ho hc, by simpa [World.putObj] using h4, h5⟩)
    (fun l p x W K h1 h2 h3 h4 hK => hassign l p x W K h2 h3 (hK _ _ ⟨h1, h2, h3, h4, rfl⟩ (hKr _ _) (keeps_old (Old.refl W))))
    (fun l p x a' W ⟨h1, h2, h3, h4, h5⟩ => by rw [h5]; exact hbody l p x W h1 h2 h3 h4)
    hdone hstop
end Go.Proofs.YtfoadheepmgbfaaGreatDoor
