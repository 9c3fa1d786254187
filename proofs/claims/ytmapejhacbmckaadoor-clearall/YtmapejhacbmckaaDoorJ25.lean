/- The document's All: walked. -/
import Derived.Test.YtmapejhacbmckaaDoorA3
import Derived.Test.YtmapejhacbmckaaDoorJ21
import Derived.Test.YtmapejhacbmckaaDoorLN3
import Derived.Test.YtmapejhacbmckaaDoorJ16
namespace Go.Proofs.YtmapejhacbmckaaDoor
open Go.RowKit Go.Lib Go.Shelf
attribute [local go_sem] Oper.semAt_some



/-- Lists of whole numbers, each in a row that one owns. -/
def RowsI (N : Nat) (w : World) (v : Value) (O : List (List Int)) : Prop := ∃ VO : List Value, w.ownsRow N 28 1 v O.length VO ∧ ∀ i, i < O.length → OwnI N w (VO.getD i nilS) (O.getD i [])

theorem lowR {w : World} {B C : Nat} {e : TypeId} {k : Nat} {v : Value} {n : Nat} {xs : List Value} (h : w.ownsRow B e k v n xs) (hc : C ≤ B) : w.ownsRow C e k v n xs := by
  refine ⟨h.1, ?_⟩
  rcases h.2 with h2 | ⟨g, cap, cur, rfl, h3, h4⟩
  · exact Or.inl h2
  · exact Or.inr ⟨g, cap, cur, rfl, by omega, h4⟩

set_option maxRecDepth 100000 in
set_option maxHeartbeats 8000000 in
theorem rallC_any (gd : Int) (bo : Option Addr) (cap : Nat) (B : Ins) (most : Nat) (hm : most ≤ 1000) (w : World) (h : InsC w bo B) (hl : B.length ≤ 9223372036854775807) :
    Calls Tryd.prog 23 #[.agg #[.int .i64 gd, .slice bo B.length cap], .int .i64 (most : Int)] w fun e w' => ∃ v, e = .returned v ∧ RowsI w.heap.size w' v (if insZ gd B = 0 then (allC B (allZ gd).1).take most else []) ∧ Old w w' := by
  have o1 : Old w (w.alloc (.cells #[.int .i64 gd, .slice bo B.length cap] 24)) := (Old.refl w).alloc _
  have x0 := new_cell w #[.int .i64 gd, .slice bo B.length cap] 24 0 _ rfl
  have x1 := new_cell w #[.int .i64 gd, .slice bo B.length cap] 24 1 _ rfl
  simp only [List.getElem_toArray, List.getElem_cons_zero, List.getElem_cons_succ] at x0 x1
  have kI := hid (rinst_any gd bo cap B _ (h.old o1) hl)
  have ko := hid o1
  have kh := hid h
  clear o1 h
  by_cases hz : insZ gd B = 0
  · rw [if_pos hz]
    have tp := tops_of hz (ins_lt kh.out)
    obtain ⟨m, rfl, hm1, hm10, hall⟩ := tp.m
    have kTa := hid (fun W (o : Old w W) => table_any m bo cap B W (kh.out.old o) hz)
    have kWh := hid (fun W => whole_any m (by omega) bo cap B.length W)
    have kOn := hid (fun N tb V pb => on_any (N := N) (w := w) (m := m) (B := B) (bo := bo) (cap := cap) (S := 2 ^ m) (tb := tb) (V := V) (pb := pb) (most := most) kh.out hz rfl hm B.length 0 (by omega))
    have hp : 0 < 2 ^ m := Nat.pow_pos (by decide)
    rw [← hall] at kWh
    have hfS : (allZ (m : Int)).1 < 2 ^ m := by omega
    have hfu := all_lt (m : Int)
    generalize (allZ (m : Int)).1 = f at *
    obtain ⟨TL, hTL⟩ : ∃ TL, (allC B f).take most = TL := ⟨_, rfl⟩
    rw [hTL]
    have kTL := hid hTL
    clear hTL
    rw [hz] at kI
    clear hz tp hall hp
    go_enter Tryd.func23, Tryd.ntmps23
    go_wp2_with fail
    generalize w.alloc (.cells #[.int .i64 (m : Int), .slice bo B.length cap] 24) = w1 at *
    obtain ⟨s, hs⟩ : ∃ s, w.heap.size = s := ⟨_, rfl⟩
    have kss := hid hs
    rw [hs] at x0 x1 ⊢
    clear hs
    refine kI.out.mono ?_
    rintro e w2 ⟨rfl, o2⟩
    have x0 := o2.cell x0
    have x1 := o2.cell x1
    have ko2 := hid (ko.out.trans o2)
    clear o2 ko kI
    go_upto_region 3 with fail
    have od : Old w2 w2.drew := (Old.refl w2).drewN 1
    refine wp_region_noPanic ?_
    refine wp_region_held_drew (S := fun X => X.cell? ⟨s, 0, none⟩ = some (.int .i64 (m : Int)) ∧ X.cell? ⟨s, 1, none⟩ = some (.slice bo B.length cap)) (by kernel_rfl) ⟨od.cell x0, od.cell x1⟩ (fun hHeld => ?_)
    have koV := hid (ko2.out.trans od)
    clear od x0 x1 ko2
    generalize w2.drew = V0 at *
    refine' wpAnyH_take (i := 0) rfl (by kernel_rfl) (by kernel_rfl) (by kernel_rfl) (fun _ _ _ h => h) (Or.inl ⟨by rfl, ?_⟩) hHeld ?_
    rotate_left
    · intro W hSw
      obtain ⟨r1, r2⟩ := hSw
      simp only [List.getElem_toArray, List.getElem_cons_zero]
      go_simp
      all_goals with_reducible rfl
    simp only [List.getElem_toArray, List.getElem_cons_zero, Act.put, List.setIfInBounds_toArray, List.set_cons_zero, List.set_cons_succ]
    refine' wpAnyH_take (i := 1) rfl (by kernel_rfl) (by kernel_rfl) (by kernel_rfl) (fun _ _ _ h => h) (Or.inl ⟨by rfl, ?_⟩) hHeld ?_
    rotate_left
    · intro W hSw
      obtain ⟨r1, r2⟩ := hSw
      simp only [List.getElem_toArray, List.getElem_cons_zero, List.getElem_cons_succ]
      go_simp
      all_goals with_reducible rfl
    simp only [List.getElem_toArray, List.getElem_cons_zero, List.getElem_cons_succ, Act.put, List.setIfInBounds_toArray, List.set_cons_zero, List.set_cons_succ]
    refine' wpAnyH_take (i := 3) rfl (by kernel_rfl) (by kernel_rfl) (by kernel_rfl) (fun _ _ _ h => h) (Or.inl ⟨by rfl, ?_⟩) hHeld ?_
    rotate_left
    · intro W hSw
      obtain ⟨r1, r2⟩ := hSw
      simp only [List.getElem_toArray, List.getElem_cons_zero, List.getElem_cons_succ]
      go_simp
      all_goals with_reducible rfl
    simp only [List.getElem_toArray, List.getElem_cons_zero, List.getElem_cons_succ, Act.put, List.setIfInBounds_toArray, List.set_cons_zero, List.set_cons_succ]
    refine wpAnyH_ready (rs := [2]) (by kernel_rfl) (by simp) ?_
    refine AllReadyH.cons (o := _) rfl (fun K hK => ?_) AllReadyH.nil
    simp only [List.getElem_toArray, List.getElem_cons_zero, List.getElem_cons_succ]
    go_simp
    refine (kTa.out V0 koV.out).mono ?_
    rintro e V1 ⟨tb, V, rfl, hTB, o4⟩
    refine hK.out _ _ (⟨o4.cell hHeld.1, o4.cell hHeld.2⟩) (fun hHeld2 => ?_)
    clear hHeld hK
    have hHeld := hHeld2
    clear hHeld2
    try simp only [Act.put, List.setIfInBounds_toArray, List.set_cons_zero, List.set_cons_succ]
    have koV := hid (koV.out.trans o4)
    clear o4
    refine' wpAnyH_take (i := 4) rfl (by kernel_rfl) (by kernel_rfl) (by kernel_rfl) (fun _ _ _ h => h) (Or.inl ⟨by rfl, ?_⟩) hHeld ?_
    rotate_left
    · intro W hSw
      obtain ⟨r1, r2⟩ := hSw
      simp only [List.getElem_toArray, List.getElem_cons_zero, List.getElem_cons_succ]
      go_simp
      all_goals with_reducible rfl
    simp only [List.getElem_toArray, List.getElem_cons_zero, List.getElem_cons_succ, Act.put, List.setIfInBounds_toArray, List.set_cons_zero, List.set_cons_succ]
    have qb : Old V1 (V1.alloc (.cells #[.int .i64 (m : Int), .slice bo B.length cap, .slice (some ⟨tb, 0, none⟩) (B.length + 1) (B.length + 1), .int .i64 (most : Int), .slice none 0 0] 90)) := (Old.refl V1).alloc _
    have bb := heap_new V1 (.cells #[.int .i64 (m : Int), .slice bo B.length cap, .slice (some ⟨tb, 0, none⟩) (B.length + 1) (B.length + 1), .int .i64 (most : Int), .slice none 0 0] 90)
    refine wpAnyH_ready (rs := [5]) (by kernel_rfl) (by simp) ?_
    refine AllReadyH.cons (o := _) rfl (fun K hK => ?_) AllReadyH.nil
    simp only [List.getElem_toArray, List.getElem_cons_zero, List.getElem_cons_succ]
    go_simp
    refine hK.out _ _ (⟨qb.cell hHeld.1, qb.cell hHeld.2⟩) (fun hHeld2 => ?_)
    clear hHeld hK
    have hHeld := hHeld2
    clear hHeld2
    try simp only [Act.put, List.setIfInBounds_toArray, List.set_cons_zero, List.set_cons_succ]
    have hX : Hid (WK V1.heap.size w (V1.alloc (.cells #[.int .i64 (m : Int), .slice bo B.length cap, .slice (some ⟨tb, 0, none⟩) (B.length + 1) (B.length + 1), .int .i64 (most : Int), .slice none 0 0] 90)) m B bo cap (2 ^ m) tb V V1.heap.size most (.slice none 0 0) []) := ⟨koV.out.trans qb, bb, Nat.le_refl _, koV.out.size, hTB.old qb, [], ⟨rfl, Or.inl ⟨rfl, rfl⟩⟩, fun i (hi : i < 0) => absurd hi (Nat.not_lt_zero i)⟩
    have kV1 := hid koV.out.size
    clear qb bb hTB koV
    generalize V1.alloc (.cells #[.int .i64 (m : Int), .slice bo B.length cap, .slice (some ⟨tb, 0, none⟩) (B.length + 1) (B.length + 1), .int .i64 (most : Int), .slice none 0 0] 90) = V2 at *
    generalize V1.heap.size = pb at *
    refine' wpAnyH_take (i := 6) rfl (by kernel_rfl) (by kernel_rfl) (by kernel_rfl) (fun _ _ _ h => h) (Or.inl ⟨by rfl, ?_⟩) hHeld ?_
    rotate_left
    · intro W hSw
      obtain ⟨r1, r2⟩ := hSw
      simp only [List.getElem_toArray, List.getElem_cons_zero, List.getElem_cons_succ]
      go_simp
      all_goals with_reducible rfl
    simp only [List.getElem_toArray, List.getElem_cons_zero, List.getElem_cons_succ, Act.put, List.setIfInBounds_toArray, List.set_cons_zero, List.set_cons_succ]
    refine wpAnyH_done (by kernel_rfl) ?_ _
    refine NoPanic.normal ?_
    have x0 := hHeld.1
    have x1 := hHeld.2
    clear hHeld
    go_wp2_with fail
    refine (kWh.out V2).mono ?_
    rintro e V3 ⟨rfl, o5⟩
    have hX3 := hid (hX.out.olds o5)
    clear o5 hX x0 x1
    go_wp2_with fail
    refine (kOn.out pb tb V pb f (.slice none 0 0) [] (.slice none 0 0) [] V3 hfS hX3.out (Nat.zero_le _) ⟨rfl, Or.inl ⟨rfl, rfl⟩⟩ rfl).mono ?_
    rintro e V4 ⟨⟨v4, rfl⟩, ov, hW4, -⟩
    obtain ⟨VO, hO1, hO2⟩ := hW4.out
    have hEE : tkO most [] ((allC (B.drop 0) f).map (fun c => [] ++ c)) = TL := by
      rw [← kTL.out]
      unfold tkO
      simp
    rw [hEE] at hO1 hO2 hW4
    obtain ⟨oa, oc, rfl⟩ := own_formR hO1
    have y4 := blk_cells (i := 4) hW4.p rfl
    simp only [List.getElem_toArray, List.getElem_cons_zero, List.getElem_cons_succ] at y4
    have kW4 := hid hW4
    have kO1 := hid hO1
    have kO2 := hid hO2
    clear hW4 hO1 hO2 hEE
    go_wp2_with fail
    go_ret
    exact ⟨_, rfl, ⟨VO, lowR kO1.out kV1.out, fun i hi => (kO2.out i hi).low kV1.out⟩, kW4.out.old⟩
  · rw [if_neg hz]
    have hzb : (insZ gd B != 0) = true := by simpa using hz
    generalize insZ gd B = z at *
    go_enter Tryd.func23, Tryd.ntmps23
    go_wp2_with fail
    refine kI.out.mono ?_
    rintro e w2 ⟨rfl, o2⟩
    have ko2 := hid (ko.out.trans o2)
    clear o2 ko kI
    go_wp2_with fail
    go_ret
    exact ⟨_, rfl, ⟨[], ⟨rfl, Or.inl ⟨rfl, rfl⟩⟩, fun i (hi : i < 0) => absurd hi (Nat.not_lt_zero i)⟩, ko2.out⟩
end Go.Proofs.YtmapejhacbmckaaDoor

/- All's function of an instance that may not be: it tells nothing. -/
namespace Go.Proofs.YtmapejhacbmckaaDoor
open Go.RowKit Go.Lib Go.Shelf
attribute [local go_sem] Oper.semAt_some

set_option maxRecDepth 100000 in
theorem all1_M (d : Nat) (Kp : Ch → World → World → Prop) (Told : Ch → World → Prop) (Pre Sp : List Ch → Prop) (w : World) :
    SeqM Tryd.prog d 46 #[] encC (fun _ => False) Kp Told (fun _ => True) Fd Pre (fun q => q = []) Sp w := by
  intro lp J Jx W _ hJ _ _ h0
  have khJ := hid hJ
  have kh0 := hid h0
  clear hJ h0
  refine callsIn_wide.2 ((callsIn_wide (n := 5)).1 ?_)
  refine callsIn_of_wp_marks Tryd.func46 rfl trivial ?_ rfl
  simp only [Tryd.ntmps46, List.size_toArray, List.length_cons, List.length_nil, Nat.reduceAdd, Nat.reduceSub, Array.replicate_succ, Array.replicate_zero, List.push_toArray, List.append_toArray, List.nil_append, List.cons_append]
  gi_wp2_with fail
  refine leave_marks [] _ ⟨by simp, fun r hr => by simp at hr⟩ (fun W' hW' => ?_)
  refine ⟨_, results_none rfl _ _ _, ⟨_, rfl⟩, ?_⟩
  exact .inl (khJ.out _ _ _ kh0.out (Frm.mono hW' (fun _ _ h => by simp at h)))
end Go.Proofs.YtmapejhacbmckaaDoor

/- An instance that was lent, written over: in plain words. -/
namespace Go.Proofs.YtmapejhacbmckaaDoor
open Go.RowKit Go.Lib Go.Shelf

/-- Its row and its lists, from some buyer on, whatever stands in them; all lie between lo and hi. -/
def YW (lo hi g : Nat) (B : Ins) (i0 : Nat) (w : World) : Prop := (lo ≤ g ∧ g < hi) ∧ ∃ curg : Array Value, w.heap[g]? = some (.cells curg 55 (0, 0)) ∧ B.length ≤ curg.size ∧ ∀ i, i0 ≤ i → i < B.length → ∃ (b cap : Nat) (curb : Array Value), curg[i]? = some (.slice (some ⟨b, 0, none⟩) (B.getD i []).length cap) ∧ lo ≤ b ∧ b < hi ∧ w.heap[b]? = some (.cells curb 57 (0, 0)) ∧ (B.getD i []).length * 2 ≤ curb.size

theorem YW.old {lo hi g : Nat} {B : Ins} {i0 : Nat} {w w' : World} (h : YW lo hi g B i0 w) (o : Old w w') : YW lo hi g B i0 w' := by
  obtain ⟨h1, curg, h2, h3, h4⟩ := h
  refine ⟨h1, curg, (o.block _ (blk_lt h2) (fun h => h)).trans h2, h3, fun i k1 k2 => ?_⟩
  obtain ⟨b, cap, curb, e1, e2, e3, e4, e5⟩ := h4 i k1 k2
  exact ⟨b, cap, curb, e1, e2, e3, (o.block _ (blk_lt e4) (fun h => h)).trans e4, e5⟩

theorem cells_size {w : World} {b : Nat} {cur : Array Value} {t : TypeId} {j : Nat} {u : Value} (h : w.heap[b]? = some (.cells cur t (0, 0))) (hc : w.cell? ⟨b, j, none⟩ = some u) : j < cur.size := by
  simp [World.cell?, h] at hc
  exact (Array.getElem?_eq_some_iff.1 hc).1

theorem LenI.yw {lo : Nat} {w : World} {g n c : Nat} {B : Ins} (h : LenI lo w (.slice (some ⟨g, 0, none⟩) n c) B) : YW lo w.heap.size g B 0 w := by
  obtain ⟨a, c', V, ub, e1, hVl, hown, hrows, -⟩ := h
  simp only [Value.slice.injEq] at e1
  obtain ⟨rfl, rfl, rfl⟩ := e1
  rcases hown.2 with ⟨e0, -⟩ | ⟨g', cap, cur, e2, h3, h4, h5, h6, h7, h8⟩
  · simp at e0
  · simp only [Value.slice.injEq, Option.some.injEq, Addr.mk.injEq, and_true, true_and] at e2
    obtain ⟨rfl, rfl⟩ := e2
    refine ⟨⟨h3, blk_lt h4⟩, cur, h4, by omega, fun i _ hi => ?_⟩
    obtain ⟨b, c2, hv, hc2, hrow⟩ := hrows i hi
    obtain ⟨curb, hb⟩ := hrow.ty
    have h9 : (cur.toList.take ((B.length + 1) * 1))[i]? = (V ++ [.slice (some ⟨ub, 0, none⟩) 1 1])[i]? := by rw [h8]
    rw [List.getElem?_take_of_lt (by omega), List.getElem?_append_left (show i < V.length by omega)] at h9
    have e8 : V[i]? = some (V.getD i nilS) := by rw [List.getD_eq_getElem?_getD, List.getElem?_eq_getElem (show i < V.length by omega)]; rfl
    rw [e8, hv] at h9
    refine ⟨b, c2, curb, by simpa using h9, hrow.lo, blk_lt hb, hb, ?_⟩
    have h10 := (hrow.own.cell (B.getD i []).length (by simp)).2
    have h11 := cells_size hb h10
    omega

/-- An offer is written over. -/
theorem YW.put {lo hi g : Nat} {B : Ins} {i0 b j : Nat} {w : World} {u : Value} {cur : Array Value} (h : YW lo hi g B i0 w) (hb : w.heap[b]? = some (.cells cur 57 (0, 0))) : YW lo hi g B i0 (w.setCell ⟨b, j, none⟩ u) := by
  obtain ⟨h1, curg, h2, h3, h4⟩ := h
  have hs := frm_set w b j u
  have hbg : g ≠ b := typ_no h2 hb (by decide)
  refine ⟨h1, curg, (hs.block _ (blk_lt h2) hbg).trans h2, h3, fun i k1 k2 => ?_⟩
  obtain ⟨b', cap, curb, e1, e2, e3, e4, e5⟩ := h4 i k1 k2
  by_cases e : b' = b
  · subst e
    have e6 : curb = cur := by
      rw [e4] at hb
      simpa using hb
    subst e6
    exact ⟨b', cap, _, e1, e2, e3, heap_set u e4, by simpa using e5⟩
  · exact ⟨b', cap, curb, e1, e2, e3, (hs.block _ (blk_lt e4) e).trans e4, e5⟩

/-- A buyer's list is taken away. -/
theorem YW.nil {lo hi g : Nat} {B : Ins} {i0 : Nat} {w : World} {u : Value} (h : YW lo hi g B i0 w) : YW lo hi g B (i0 + 1) (w.setCell ⟨g, i0, none⟩ u) := by
  obtain ⟨h1, curg, h2, h3, h4⟩ := h
  have hs := frm_set w g i0 u
  refine ⟨h1, _, heap_set u h2, by simpa using h3, fun i k1 k2 => ?_⟩
  obtain ⟨b, cap, curb, e1, e2, e3, e4, e5⟩ := h4 i (by omega) k2
  refine ⟨b, cap, curb, ?_, e2, e3, (hs.block _ (blk_lt e4) (typ_no e4 h2 (by decide))).trans e4, e5⟩
  rw [Array.getElem?_setIfInBounds_ne (by omega)]
  exact e1
end Go.Proofs.YtmapejhacbmckaaDoor

/- A range over a function that tells of things in new memory, whose variable lies in no box. -/
namespace Go.Proofs.YtmapejhacbmckaaDoor
open Go.RowKit Go.Lib Go.Shelf

theorem range_Mp {α : Type} {P : Program} {n : Nat} {g : Operand} {ps : Array Tmp} {assign body : Code} {Q : Exit → Act → World → Prop} {a : Act} {w : World} (hn : 1 ≤ n) {gf : Nat} {lb : Array Value}
    (hg : a.eval g = .func (.func gf) #[] lb) (eg : ∀ args w, (callFunc gf args).run P w = .ok (.enter gf args) w) {enc : α → Array Value} {M : Nat → Prop} {Kp : α → World → World → Prop} {Told : α → World → Prop} {Own : World → Prop} {Fr : List α → Nat → Prop} {Pre S Sp : List α → Prop}
    (hseq : SeqM P (n - 1) gf lb enc M Kp Told Own Fr Pre S Sp w) (hOw : ∀ (W : World) (o o' : Obj), Own W → W.heap[w.heap.size + 1]? = some o → o.isCells = false → Own (W.putObj (w.heap.size + 1) o')) (hM : ∀ k, M k → k < w.heap.size) (hKt : ∀ {x : α} {A B D : World}, Kp x A B → Kp x B D → Kp x A D) (hKr : ∀ (x : α) (W : World), Kp x W W)
    (hKb : ∀ (x : α) (W : World) (o o' : Obj), W.heap[w.heap.size + 1]? = some o → o.isCells = false → Kp x W (W.putObj (w.heap.size + 1) o')) (hTo : ∀ (x : α) (W : World) (o o' : Obj), Told x W → W.heap[w.heap.size + 1]? = some o → o.isCells = false → Told x (W.putObj (w.heap.size + 1) o')) (hps : ∀ x, (enc x).size = ps.size)
    (I : List α → World → Prop) (Ix : Code → List α → World → Prop)
    (hI : ∀ p X Y, I p X → Frm (fun k => M k ∨ (w.heap.size ≤ k ∧ Fr p k)) X Y → I p Y) (hIx : ∀ c p X Y, Ix c p X → Frm (fun k => M k ∨ (w.heap.size ≤ k ∧ Fr p k)) X Y → Ix c p Y)
    (pI : ∀ (p : List α) (X : World) (o o' : Obj), I p X → X.heap[w.heap.size + 1]? = some o → o.isCells = false → I p (X.putObj (w.heap.size + 1) o')) (pX : ∀ (c : Code) (p : List α) (X : World) (o o' : Obj), Ix c p X → X.heap[w.heap.size + 1]? = some o → o.isCells = false → Ix c p (X.putObj (w.heap.size + 1) o')) (h0 : I [] w) (upd : α → Array Value → Array Value)
    (hassign : ∀ (l : Nat) (p : List α) (x : α) (W : World) (K : Act → World → Prop), Pre (p ++ [x]) → Told x W → K { tmps := upd x a.tmps, defers := [] } W → assign.wpIn (Fence.wide.inRound l) (n - 1 - 1) P (Exit.then K (fun _ _ _ => False)) { tmps := (ps.zip (enc x)).foldl (fun t (p, v) => t.setIfInBounds p v) a.tmps, defers := [] } W)
    (hbody : ∀ (l : Nat) (p : List α) (x : α) (W : World), I p W → Pre (p ++ [x]) → Told x W → w.heap.size + 2 ≤ W.heap.size → body.wpIn (Fence.wide.inRound l) (n - 1 - 1) P (ownPostM w.heap.size (Kp x) I Ix (p ++ [x]) W) { tmps := upd x a.tmps, defers := [] } W)
    (hdone : ∀ (D : Nat) (q : List α) (W : World), w.heap.size = D → S q → I q W → Own W → W.heap[D]? = some (.deferred (some [])) → Q .normal { a with defers := { target := .collected D, args := #[] } :: a.defers } W)
    (hstop : ∀ (D : Nat) (c : Code) (p : List α) (W : World), w.heap.size = D → Sp p → Ix c p W → Own W → W.heap[D]? = some (.deferred (some [])) → c.wpIn Fence.wide n P Q { a with defers := { target := .collected D, args := #[] } :: a.defers } W) :
    (Code.rangeFunc g ps assign body).wpIn Fence.wide n P Q a w :=
  range_M hn hg eg hseq hOw hM hKt hKb hps I Ix hI hIx pI pX h0 (fun p x a' W => I p W ∧ Pre (p ++ [x]) ∧ Told x W ∧ w.heap.size + 2 ≤ W.heap.size ∧ a' = { tmps := upd x a.tmps, defers := [] })
    (fun p x a' W o o' ⟨h1, h2, h3, h4, h5⟩ ho hc => ⟨pI _ _ _ _ h1 ho hc, h2, hTo _ _ _ _ h3 ho hc, by simpa [World.putObj] using h4, h5⟩)
    (fun l p x W K h1 h2 h3 h4 hK => hassign l p x W K h2 h3 (hK _ _ ⟨h1, h2, h3, h4, rfl⟩ (hKr _ _) (keeps_old (Old.refl W))))
    (fun l p x a' W ⟨h1, h2, h3, h4, h5⟩ => by rw [h5]; exact hbody l p x W h1 h2 h3 h4)
    hdone hstop
end Go.Proofs.YtmapejhacbmckaaDoor
