/- What came of an instance: walked. -/
import Derived.Test.YtfoadheepmgbfaaGreatDoorJ22
import Derived.BigQuiet
import Derived.Laws.Tables
namespace Go.Proofs.YtfoadheepmgbfaaGreatDoor
open Go.RowKit Go.Lib Go.Shelf
attribute [local go_sem] Oper.semAt_some



/-- What clearing answers. -/
def ClrP (gd : Int) (bo : Option Addr) (cap : Nat) (B : Ins) (w : World) (e : Ending) (w' : World) : Prop := Old w w' ∧ ((insZ gd B = 0 ∧ ∃ y, e = .returned (.tuple #[.agg (wonA gd (.slice bo B.length cap) (cosC gd B) y), .int .i64 0]) ∧ NewL w.heap.size w' y (wonL B (cosC gd B)) ∧ ∃ b n m, y = .slice (some ⟨b, 0, none⟩) n m) ∨ (insZ gd B ≠ 0 ∧ e = .returned (.tuple #[.agg (wonA 0 nilS [] nilS), .int .i64 (insZ gd B)])))

theorem results_cell_slot {P : Program} {fn : Func} {p q : Tmp} {ty : TypeId} (h : fn.results = #[.cell p ty, .tmp q]) (tmps : Array Value) (w : World) (g : Nat) (t : TypeId) (cs : Array Value) (fr : Nat × Nat) (d : TypeDesc)
    (hp : tmps.getD p undef = .pointer (some ⟨g, 0, none⟩)) (hg : w.heap[g]? = some (.cells cs t fr))
    (hu : P.underlying ty = some d) (hd : (match d with | .struct _ | .array _ _ => true | _ => false) = true) (hi : (P.info? ty).map (·.size) = some cs.size) :
    (results fn tmps).run P w = .ok (.tuple #[.agg cs, tmps.getD q undef]) w := by
  have hp' : tmps[p]?.getD undef = .pointer (some ⟨g, 0, none⟩) := by simpa using hp
  simp [results, h, hp', asAddr, run_loadVar_row w g t ty cs fr d hg hu hd hi]

theorem wonA_one (gd : Int) (x : Value) (c : List Int) (y : Value) (hx : x.oneCell' = true) (hy : y.oneCell' = true) : (wonA gd x c y).all (·.oneCell') = true := by
  rw [Array.all_eq_true_iff_forall_mem]
  intro v hv
  simp only [wonA, List.mem_toArray, List.mem_cons, List.mem_append, List.not_mem_nil, or_false] at hv
  rcases hv with rfl | rfl | hv | rfl
  · rfl
  · exact hx
  · unfold wnA at hv
    rw [List.mem_map] at hv
    obtain ⟨i, -, rfl⟩ := hv
    rfl
  · exact hy
theorem wonA_set (gd : Int) (x : Value) (c : List Int) (y : Value) {k : Nat} (hk : k < c.length) (hc : 0 ≤ c[k]) (h32 : k < 32) : (wonA gd x (c.take k) y).setIfInBounds (2 + k) (.bool true) = wonA gd x (c.take (k + 1)) y := by
  apply Array.ext_getElem?
  intro j
  rw [Array.getElem?_setIfInBounds, wonA_size]
  by_cases e : 2 + k = j
  · subst e
    rw [if_pos rfl, if_pos (by omega), wonA_w _ _ _ _ h32]
    congr 2
    rw [List.getD_eq_getElem?_getD, List.getElem?_take_of_lt (by omega), List.getElem?_eq_getElem hk]
    simp [hc]
  · rw [if_neg e]
    simp only [wonA, List.getElem?_toArray]
    match j with
    | 0 => rfl
    | 1 => rfl
    | j + 2 =>
      simp only [List.getElem?_cons_succ]
      by_cases hj : j < 32
      · rw [List.getElem?_append_left (by simp [wnA, hj]), List.getElem?_append_left (by simp [wnA, hj])]
        simp only [wnA, List.getElem?_map, List.getElem?_range hj, Option.map_some, Option.some.injEq, Value.bool.injEq]
        have e3 : (c.take k).getD j (-1) = (c.take (k + 1)).getD j (-1) := by
          rw [List.getD_eq_getElem?_getD, List.getD_eq_getElem?_getD]
          by_cases hjk : j < k
          · rw [List.getElem?_take_of_lt hjk, List.getElem?_take_of_lt (by omega)]
          · rw [List.getElem?_eq_none (by simp; omega), List.getElem?_eq_none (by simp; omega)]
        rw [e3]
      · rw [List.getElem?_append_right (by simp [wnA]; omega), List.getElem?_append_right (by simp [wnA]; omega)]
        simp [wnA]
theorem wonA_skip (gd : Int) (x : Value) (c : List Int) (y : Value) {k : Nat} (hk : k < c.length) (hc : ¬ 0 ≤ c[k]) : wonA gd x (c.take (k + 1)) y = wonA gd x (c.take k) y := by
  unfold wonA
  congr 3
  congr 1
  unfold wnA
  apply List.map_congr_left
  intro j hj
  congr 1
  by_cases e : j = k
  · subst e
    rw [List.getD_eq_getElem?_getD, List.getD_eq_getElem?_getD, List.getElem?_take_of_lt (by omega), List.getElem?_eq_getElem hk, List.getElem?_eq_none (by simp; omega)]
    simp [hc]
  · have e3 : (c.take (k + 1)).getD j (-1) = (c.take k).getD j (-1) := by
      rw [List.getD_eq_getElem?_getD, List.getD_eq_getElem?_getD]
      by_cases hjk : j < k
      · rw [List.getElem?_take_of_lt (by omega), List.getElem?_take_of_lt hjk]
      · rw [List.getElem?_eq_none (by simp; omega), List.getElem?_eq_none (by simp; omega)]
    rw [e3]
/-- The coins, those of the first so many buyers told. -/
def wonK (B : Ins) (c : List Int) (k : Nat) : List Int := (List.range B.length).map (fun i => if i < k then wonZ B c i else 0)
theorem wonK_len (B : Ins) (c : List Int) (k : Nat) : (wonK B c k).length = B.length := by simp [wonK]
theorem wonK_zero (B : Ins) (c : List Int) : wonK B c 0 = List.replicate B.length 0 := by
  unfold wonK
  apply List.ext_getElem
  · simp
  · intro i h1 h2
    simp
theorem wonK_end (B : Ins) (c : List Int) : wonK B c B.length = wonL B c := by
  unfold wonK wonL
  apply List.map_congr_left
  intro i hi
  rw [if_pos (by simpa using hi)]
theorem wonK_set {B : Ins} {c : List Int} {k : Nat} : (wonK B c k).set k (wonZ B c k) = wonK B c (k + 1) := by
  apply List.ext_getElem
  · simp [wonK]
  · intro i h1 h2
    rw [List.getElem_set]
    simp only [wonK, List.getElem_map, List.getElem_range]
    by_cases e : k = i
    · subst e
      rw [if_pos rfl, if_pos (by omega)]
    · rw [if_neg e]
      by_cases h : i < k
      · rw [if_pos h, if_pos (by omega)]
      · rw [if_neg h, if_neg (by omega)]
theorem wonK_skip {B : Ins} {c : List Int} {k : Nat} (hk : ¬ 0 ≤ c.getD k (-1)) : wonK B c (k + 1) = wonK B c k := by
  unfold wonK
  apply List.map_congr_left
  intro i hi
  by_cases e : i = k
  · subst e
    rw [if_pos (by omega), if_neg (by omega)]
    unfold wonZ
    rw [if_neg hk]
  · by_cases h : i < k
    · rw [if_pos h, if_pos (by omega)]
    · rw [if_neg h, if_neg (by omega)]

theorem zeroW : (#[Value.int .i64 0, .slice none 0 0, .bool false, .bool false, .bool false, .bool false, .bool false, .bool false, .bool false, .bool false, .bool false, .bool false, .bool false, .bool false, .bool false, .bool false, .bool false, .bool false, .bool false, .bool false, .bool false, .bool false, .bool false, .bool false, .bool false, .bool false, .bool false, .bool false, .bool false, .bool false, .bool false, .bool false, .bool false, .bool false, .slice none 0 0] : Array Value) = wonA 0 nilS [] nilS := by kernel_rfl
theorem zeroW2 (gd : Int) (x y : Value) : (#[Value.int .i64 gd, x, .bool false, .bool false, .bool false, .bool false, .bool false, .bool false, .bool false, .bool false, .bool false, .bool false, .bool false, .bool false, .bool false, .bool false, .bool false, .bool false, .bool false, .bool false, .bool false, .bool false, .bool false, .bool false, .bool false, .bool false, .bool false, .bool false, .bool false, .bool false, .bool false, .bool false, .bool false, .bool false, y] : Array Value) = wonA gd x [] y := by rfl
/-- A whole row stored in a region that draws. -/
theorem step_store_row {P : Program} {ops : Array Oper} {o : Oper} {a : Act} {K : Act → World → Prop} {Q : Exit → Act → World → Prop} {E : Prop} (W : World) (hgd : o.guard = none) (ty : TypeId) (x y : Operand) (ho : o.op = .store ty x y)
    (g : Nat) (cells : Array Value) (hx : a.eval x = .pointer (some ⟨g, 0, none⟩)) (hy : a.eval y = .agg cells)
    (t : TypeId) (old : Array Value) (hg : W.heap[g]? = some (.cells old t (0, 0))) (hi : (P.info? ty).map (·.size) = some cells.size)
    (hold : old.size = cells.size) (h1 : cells.all (·.oneCell') = true)
    (h : K (a.put o.dst undef) (W.setRow g cells)) : if Region.wanted o (yielded ops a.tmps) = true then Oper.wp P o a W K Q else E := by
  have hw : Region.wanted o (yielded ops a.tmps) = true := by simp [Region.wanted, hgd]
  rw [if_pos hw]
  exact wp_store_row ty x y ho g cells hx hy t old hg hi hold h1 h
theorem builtW : (Tryz.prog.built 65 []).getD #[] = wonA 0 nilS [] nilS := by kernel_rfl
theorem builtW2 : (Tryz.prog.built 65 []).isSome = true := by kernel_rfl

theorem wpList_buildW {ops : Array Oper} {rest : List Oper} {o : Oper} {a : Act} {w : World} {Q : Exit → Act → World → Prop} (hg : o.guard = none) (ho : o.op = .build 65 #[])
    (h : wpList Tryz.prog ops Q rest (a.put o.dst (.agg (wonA 0 nilS [] nilS))) w) : wpList Tryz.prog ops Q (o :: rest) a w := by
  have e : ∀ f : Nat × Operand → Nat × Value, (Array.map f #[]).toList = [] := fun _ => by simp
  refine wpList_build hg 65 #[] ho ?_ ?_
  · rw [e]; exact builtW2
  · rw [e, builtW]; exact h

/-- Where clearing stands. -/
structure CLs (w3 wx : World) (wb rb : Nat) (gd : Int) (x : Value) (B : Ins) (c : List Int) (k : Nat) : Prop where
  old : Old w3 wx
  wbl : wx.heap[wb]? = some (.cells (wonA gd x (c.take k) (.slice (some ⟨rb, 0, none⟩) c.length c.length)) 65 (0, 0))
  rbl : wx.heap[rb]? = some (.cells ((wonK B c k).map (Value.int .i64)).toArray 2 (0, 0))
  hw : w3.heap.size ≤ wb
  hr : w3.heap.size ≤ rb



set_option maxRecDepth 100000 in
set_option maxHeartbeats 8000000 in
theorem clearing_any (gd : Int) (bo : Option Addr) (cap : Nat) (B : Ins) (w : World) (h : InsC w bo B) (hcap : B.length ≤ cap) (hl : B.length ≤ 9223372036854775807) (hT : Tabs w) :
    Calls Tryz.prog 33 #[.agg #[.int .i64 gd, .slice bo B.length cap]] w (ClrP gd bo cap B w) := by
  have o1 : Old w (w.alloc (.cells #[.int .i64 gd, .slice bo B.length cap] 24)) := (Old.refl w).alloc _
  have b1 := heap_new w (.cells #[.int .i64 gd, .slice bo B.length cap] 24)
  have z1 := alloc_size w (.cells #[.int .i64 gd, .slice bo B.length cap] 24)
  have o2 : Old (w.alloc (.cells #[.int .i64 gd, .slice bo B.length cap] 24)) ((w.alloc (.cells #[.int .i64 gd, .slice bo B.length cap] 24)).alloc (.cells (wonA 0 nilS [] nilS) 65)) := (Old.refl _).alloc _
  have b2 := heap_new (w.alloc (.cells #[.int .i64 gd, .slice bo B.length cap] 24)) (.cells (wonA 0 nilS [] nilS) 65)
  obtain ⟨s, hs⟩ : ∃ s, w.heap.size = s := ⟨_, rfl⟩
  have kss := hid hs
  rw [hs] at b1 z1
  rw [z1] at b2
  have b1 := (o2.block s (blk_lt b1) (fun h => h)).trans b1
  have x0 := blk_cells (i := 0) b1 rfl
  have x1 := blk_cells (i := 1) b1 rfl
  simp only [qqa, qqb, qqc] at x0 x1
  have kbR := hid b2
  have kb1 := hid b1
  have ko := hid (o1.trans o2)
  have kh := hid h
  have kBe := hid (fun V (o : Old w V) => best_any gd bo cap B V (h.old o) hcap hl (hT.old o))
  have klt := hid (ins_lt h)
  rw [ck_zero] at kBe
  clear o1 o2 b1 b2 z1 h hT
  go_enter Tryz.func33, Tryz.ntmps33
  go_upto_region 1 with fail
  rw [zeroW]
  generalize (w.alloc (.cells #[.int .i64 gd, .slice bo B.length cap] 24)).alloc (.cells (wonA 0 nilS [] nilS) 65) = w1 at *
  go_wp2_with fail
  refine (kBe.out _ ko.out).mono ?_
  rintro e w2 ⟨v, rfl, hzv, o2⟩
  have hzv := hzv.up ko.out.size
  rw [hs] at hzv
  obtain ⟨ao, cc, hv, -⟩ := id hzv
  subst hv
  have hco : ptC gd B 0 (allZ gd).1 = cosC gd B := rfl
  rw [hco] at hzv ⊢
  have q2 : Old w2 (w2.alloc (.cells #[.slice ao (cosC gd B).length cc, .int .i64 (frZ gd B 0 (allZ gd).1)] 71)) := (Old.refl w2).alloc _
  have y0 := new_cell w2 #[.slice ao (cosC gd B).length cc, .int .i64 (frZ gd B 0 (allZ gd).1)] 71 0 _ rfl
  simp only [qqa, qqb] at y0
  have oo := o2.trans q2
  have x0 := oo.cell x0
  have x1 := oo.cell x1
  have kbR := hid ((oo.block _ (blk_lt kbR.out) (fun h => h)).trans kbR.out)
  have ko3 := hid (ko.out.trans oo)
  have kz := hid (hzv.old q2)
  clear oo q2 o2 ko hzv kBe hco
  by_cases hz : insZ gd B = 0
  · have hw := win_of hz klt.out
    have kw : Hid (Win gd B (cosC gd B)) := hw
    have khz := hid hz
    rw [hz]
    have hcl : (cosC gd B).length = B.length := hw.len
    have hfew := hw.few
    obtain ⟨c, hc⟩ : ∃ c, cosC gd B = c := ⟨_, rfl⟩
    have kc := hid hc
    rw [hc] at y0 x0 x1 kbR ko3 kz kw hcl ⊢
    clear hc hw hz
    have khcl := hid hcl
    have hcn : c.length ≤ 32 := by omega
    clear hcl
    go_upto_region 4 with fail
    generalize w2.alloc (.cells #[.slice ao c.length cc, .int .i64 (frZ gd B 0 (allZ gd).1)] 71) = w3 at *
    generalize w2.heap.size = bb at *
    go_cut [6] from 18 to 23 (fun t6 wx => ∃ wb rb, t6 = .pointer (some ⟨wb, 0, none⟩) ∧ Hid (CLs w3 wx wb rb gd (.slice bo B.length cap) B c 0))
    case first =>
      refine wp_region_noPanic ?_
      refine wp_region_held_drew (S := fun W => W.cell? ⟨s, 0, none⟩ = some (.int .i64 gd) ∧ W.cell? ⟨s, 1, none⟩ = some (.slice bo B.length cap) ∧ W.cell? ⟨bb, 0, none⟩ = some (.slice ao c.length cc)) (by kernel_rfl) ⟨((Old.refl w3).drewN 1).cell x0, ((Old.refl w3).drewN 1).cell x1, ((Old.refl w3).drewN 1).cell y0⟩ (fun hHeld => ?_)
      have koV : Hid (Old w3 w3.drew) := (Old.refl w3).drewN 1
      generalize w3.drew = V at *
      refine' qtk (i := 0) rfl (fun _ _ _ h => h) (Or.inl ⟨by rfl, ?_⟩) hHeld ?_
      rotate_left
      · intro W hSw
        obtain ⟨r1, r2, r3⟩ := hSw
        simp only [qqa, qqb]
        go_simp
        all_goals with_reducible rfl
      simp only [qqa, qqb, Act.put, qqd, qqe, qqf]
      refine' qtk (i := 1) rfl (fun _ _ _ h => h) (Or.inl ⟨by rfl, ?_⟩) hHeld ?_
      rotate_left
      · intro W hSw
        obtain ⟨r1, r2, r3⟩ := hSw
        simp only [qqa, qqb, qqc]
        go_simp
        all_goals with_reducible rfl
      simp only [qqa, qqb, qqc, Act.put, qqd, qqe, qqf]
      refine' qtk (i := 2) rfl (fun _ _ _ h => h) (Or.inl ⟨by rfl, ?_⟩) hHeld ?_
      rotate_left
      · intro W hSw
        obtain ⟨r1, r2, r3⟩ := hSw
        simp only [qqa, qqb, qqc]
        go_simp
        all_goals with_reducible rfl
      simp only [qqa, qqb, qqc, Act.put, qqd, qqe, qqf]
      refine' qtk (i := 3) rfl (fun _ _ _ h => h) (Or.inl ⟨by rfl, ?_⟩) hHeld ?_
      rotate_left
      · intro W hSw
        obtain ⟨r1, r2, r3⟩ := hSw
        simp only [qqa, qqb, qqc]
        go_simp
        all_goals with_reducible rfl
      simp only [qqa, qqb, qqc, Act.put, qqd, qqe, qqf]
      refine wpAnyH_ready (rs := [4, 6]) (by kernel_rfl) (by simp) ?_
      refine AllReadyH.cons (o := _) rfl (fun K hK => ?_) (AllReadyH.cons (o := _) rfl (fun K hK => ?_) AllReadyH.nil)
      · have hmk := make_n c.length (by omega) V
        have om : Old V (V.alloc (.cells (Array.replicate c.length (Value.int .i64 0)) 2)) := (Old.refl _).alloc _
        have bm := heap_new V (.cells (Array.replicate c.length (Value.int .i64 0)) 2)
        have zm := alloc_size V (.cells (Array.replicate c.length (Value.int .i64 0)) 2)
        simp only [qqa, qqb, qqc]
        go_simp
        refine hK.out _ _ (⟨om.cell hHeld.1, om.cell hHeld.2.1, om.cell hHeld.2.2⟩) (fun hHeld2 => ?_)
        clear hHeld hK
        have hHeld := hHeld2
        clear hHeld2
        try simp only [Act.put, qqd, qqe, qqf]
        generalize V.alloc (.cells (Array.replicate c.length (Value.int .i64 0)) 2) = V2 at *
        clear hmk
        refine' qtk (i := 5) rfl (fun _ _ _ h => h) (Or.inl ⟨by rfl, ?_⟩) hHeld ?_
        rotate_left
        · intro W hSw
          obtain ⟨r1, r2, r3⟩ := hSw
          simp only [qqa, qqb, qqc]
          go_simp
          all_goals with_reducible rfl
        simp only [qqa, qqb, qqc, Act.put, qqd, qqe, qqf]
        rw [zeroW2]
        refine wpAnyH_ready (rs := [6]) (by kernel_rfl) (by simp) ?_
        refine AllReadyH.cons (o := _) rfl (fun K hK => ?_) AllReadyH.nil
        have oa : Old V2 (V2.alloc (.cells (wonA 0 nilS [] nilS) 65)) := (Old.refl _).alloc _
        have ba := heap_new V2 (.cells (wonA 0 nilS [] nilS) 65)
        have za := alloc_size V2 (.cells (wonA 0 nilS [] nilS) 65)
        simp only [qqa, qqb, qqc]
        go_simp
        rw [zeroW]
        refine hK.out _ _ (⟨oa.cell hHeld.1, oa.cell hHeld.2.1, oa.cell hHeld.2.2⟩) (fun hHeld2 => ?_)
        clear hHeld hK
        have hHeld := hHeld2
        clear hHeld2
        try simp only [Act.put, qqd, qqe, qqf]
        generalize V2.alloc (.cells (wonA 0 nilS [] nilS) 65) = V3 at *
        have bm3 := (oa.block _ (blk_lt bm) (fun h => h)).trans bm
        rw [zm] at ba
        refine wpAnyH_ready (rs := [7]) (by kernel_rfl) (by simp) ?_
        refine AllReadyH.cons (o := _) rfl (fun K hK => ?_) AllReadyH.nil
        refine step_store_row V3 (by rfl) 65 _ _ (by rfl) (V.heap.size + 1) _ (by rfl) (by rfl) 65 _ ba (wonA_info ..) (by rw [wonA_size, wonA_size]) (wonA_one _ _ _ _ rfl rfl) ?_
        have oS := frm_setRow V3 (V.heap.size + 1) (wonA gd (.slice bo B.length cap) [] (.slice (some ⟨V.heap.size, 0, none⟩) c.length c.length))
        have hszV := koV.out.size
        refine hK.out _ _ ⟨frm_cell oS hHeld.1 (by have := World.block_lt_of_cell? _ _ x0; dsimp only at this ⊢; omega), frm_cell oS hHeld.2.1 (by have := World.block_lt_of_cell? _ _ x0; dsimp only at this ⊢; omega), frm_cell oS hHeld.2.2 (by have := World.block_lt_of_cell? _ _ y0; dsimp only at this ⊢; omega)⟩ (fun _ => ?_)
        try simp only [Act.put]
        refine wpAnyH_done (by kernel_rfl) ?_ _
        refine NoPanic.normal ?_
        have kCL : Hid (CLs w3 (V3.setRow (V.heap.size + 1) (wonA gd (.slice bo B.length cap) [] (.slice (some ⟨V.heap.size, 0, none⟩) c.length c.length))) (V.heap.size + 1) (V.heap.size) gd (.slice bo B.length cap) B c 0) :=
          ⟨Frm.trans (koV.out.trans (om.trans oa)) oS (fun i hi e => by omega), setRow_heap _ _ _ _ _ _ ba, by
            rw [wonK_zero, oS.block _ (blk_lt bm3) (by omega), bm3]
            simp [khcl.out], by omega, by omega⟩
        clear hHeld hK
        go_wp2_with fail
        go_meet
        case rel => exact ⟨_, _, rfl, kCL⟩
      · have oa : Old V (V.alloc (.cells (wonA 0 nilS [] nilS) 65)) := (Old.refl _).alloc _
        have ba := heap_new V (.cells (wonA 0 nilS [] nilS) 65)
        have za := alloc_size V (.cells (wonA 0 nilS [] nilS) 65)
        simp only [qqa, qqb, qqc]
        go_simp
        rw [zeroW]
        refine hK.out _ _ (⟨oa.cell hHeld.1, oa.cell hHeld.2.1, oa.cell hHeld.2.2⟩) (fun hHeld2 => ?_)
        clear hHeld hK
        have hHeld := hHeld2
        clear hHeld2
        try simp only [Act.put, qqd, qqe, qqf]
        generalize V.alloc (.cells (wonA 0 nilS [] nilS) 65) = V2 at *
        refine wpAnyH_ready (rs := [4]) (by kernel_rfl) (by simp) ?_
        refine AllReadyH.cons (o := _) rfl (fun K hK => ?_) AllReadyH.nil
        have hmk := make_n c.length (by omega) V2
        have om : Old V2 (V2.alloc (.cells (Array.replicate c.length (Value.int .i64 0)) 2)) := (Old.refl _).alloc _
        have bm := heap_new V2 (.cells (Array.replicate c.length (Value.int .i64 0)) 2)
        have zm := alloc_size V2 (.cells (Array.replicate c.length (Value.int .i64 0)) 2)
        simp only [qqa, qqb, qqc]
        go_simp
        refine hK.out _ _ (⟨om.cell hHeld.1, om.cell hHeld.2.1, om.cell hHeld.2.2⟩) (fun hHeld2 => ?_)
        clear hHeld hK
        have hHeld := hHeld2
        clear hHeld2
        try simp only [Act.put, qqd, qqe, qqf]
        generalize V2.alloc (.cells (Array.replicate c.length (Value.int .i64 0)) 2) = V3 at *
        clear hmk
        refine' qtk (i := 5) rfl (fun _ _ _ h => h) (Or.inl ⟨by rfl, ?_⟩) hHeld ?_
        rotate_left
        · intro W hSw
          obtain ⟨r1, r2, r3⟩ := hSw
          simp only [qqa, qqb, qqc]
          go_simp
          all_goals with_reducible rfl
        simp only [qqa, qqb, qqc, Act.put, qqd, qqe, qqf]
        rw [zeroW2]
        have ba := (om.block _ (blk_lt ba) (fun h => h)).trans ba
        have bm3 := bm
        rw [za] at bm3
        refine wpAnyH_ready (rs := [7]) (by kernel_rfl) (by simp) ?_
        refine AllReadyH.cons (o := _) rfl (fun K hK => ?_) AllReadyH.nil
        refine step_store_row V3 (by rfl) 65 _ _ (by rfl) (V.heap.size) _ (by rfl) (by rfl) 65 _ ba (wonA_info ..) (by rw [wonA_size, wonA_size]) (wonA_one _ _ _ _ rfl rfl) ?_
        have oS := frm_setRow V3 (V.heap.size) (wonA gd (.slice bo B.length cap) [] (.slice (some ⟨V.heap.size + 1, 0, none⟩) c.length c.length))
        have hszV := koV.out.size
        refine hK.out _ _ ⟨frm_cell oS hHeld.1 (by have := World.block_lt_of_cell? _ _ x0; dsimp only at this ⊢; omega), frm_cell oS hHeld.2.1 (by have := World.block_lt_of_cell? _ _ x0; dsimp only at this ⊢; omega), frm_cell oS hHeld.2.2 (by have := World.block_lt_of_cell? _ _ y0; dsimp only at this ⊢; omega)⟩ (fun _ => ?_)
        try simp only [Act.put]
        refine wpAnyH_done (by kernel_rfl) ?_ _
        refine NoPanic.normal ?_
        have kCL : Hid (CLs w3 (V3.setRow (V.heap.size) (wonA gd (.slice bo B.length cap) [] (.slice (some ⟨V.heap.size + 1, 0, none⟩) c.length c.length))) (V.heap.size) (V.heap.size + 1) gd (.slice bo B.length cap) B c 0) :=
          ⟨Frm.trans (koV.out.trans (oa.trans om)) oS (fun i hi e => by omega), setRow_heap _ _ _ _ _ _ ba, by
            rw [wonK_zero, oS.block _ (blk_lt bm3) (by omega), bm3]
            simp [khcl.out], by omega, by omega⟩
        clear hHeld hK
        go_wp2_with fail
        go_meet
        case rel => exact ⟨_, _, rfl, kCL⟩
    case rest =>
      obtain ⟨wb, rb, rfl, hCL⟩ := hcut
      have y0 := hCL.out.old.cell y0
      have ko3x := hid x1
      clear x0 x1
      go_wp2_with fail
      go_loopw [27] (fun t wr => ∃ k : Nat, k ≤ c.length ∧ t = .int .i64 (k : Int) ∧ Hid (CLs w3 wr wb rb gd (.slice bo B.length cap) B c k)) (fun t _ => c.length - (intOf t).toNat)
      case atStart => exact ⟨0, Nat.zero_le _, rfl, hCL⟩
      case round =>
        obtain ⟨k, hk, rfl, hX⟩ := hrel
        clear y0
        by_cases hlt : k < c.length
        · have hlt' : (k : Int) < (c.length : Int) := by omega
          have hkB : k < B.length := by have := khcl.out; omega
          have hkB' : (k : Int) < (B.length : Int) := by omega
          obtain ⟨cg, co, hca, k1⟩ := kz.out.nums k hlt
          subst hca
          have y1 := hX.out.old.cell k1
          have hgd : c.getD k (-1) = c[k] := by rw [List.getD_eq_getElem?_getD, List.getElem?_eq_getElem hlt]; rfl
          have hnum := kw.out.num _ (List.getElem_mem hlt)
          have hok := kw.out.ok k hlt
          by_cases hx : 0 ≤ c[k]
          · have kA := hid (wonA_set gd (.slice bo B.length cap) c (.slice (some ⟨rb, 0, none⟩) c.length c.length) hlt hx (by omega))
            obtain ⟨n, hn⟩ : ∃ n : Nat, c[k] = (n : Int) := ⟨c[k].toNat, by omega⟩
            have hgB : B.getD k [] = B[k] := by rw [List.getD_eq_getElem?_getD, List.getElem?_eq_getElem hkB]; rfl
            have hnl : n < B[k].length := by
              have := hok hx
              rw [hn, hgB, Int.toNat_natCast] at this
              exact this
            have hnl' : (n : Int) < (B[k].length : Int) := by omega
            have kwz : Hid (wonZ B c k = (B[k][n]).2) := by
              show _ = _
              unfold wonZ
              rw [hgd, hn, if_pos (by omega), Int.toNat_natCast, hgB, List.getD_eq_getElem?_getD, List.getElem?_eq_getElem hnl]
              rfl
            obtain ⟨g, o, a0, c0, rfl, i1, i2, -, -⟩ := kh.out k hkB
            obtain ⟨og, oo, rfl, p1, p2⟩ := i2 n hnl
            have koX := hid (ko3.out.trans hX.out.old)
            have u0 := blk_cells (i := 34) hX.out.wbl (wonA_34 ..)
            have u1 := hX.out.old.cell (ko3x.out)
            have u2 := koX.out.cell i1
            have u3 := koX.out.cell p2
            rw [hn] at y1
            have hx' : (0 : Int) ≤ (n : Int) := by omega
            have hk32 : (k : Int) < 32 := by omega
            obtain ⟨xc, hxc⟩ : ∃ xc, (B[k][n]).2 = xc := ⟨_, rfl⟩
            rw [hxc] at u3 kwz
            obtain ⟨bl, hbl⟩ : ∃ bl, B[k].length = bl := ⟨_, rfl⟩
            rw [hbl] at u2 hnl'
            have hXl := blk_lt hX.out.wbl
            have hsw : Hid (s < wb ∧ s < rb) := by
              have h1 := hX.out.hw
              have h2 := hX.out.hr
              have h3 := World.block_lt_of_cell? _ _ ko3x.out
              dsimp only at h3
              exact ⟨by omega, by omega⟩
            have hwr : Hid (wb ≠ rb) := fun e => by
              have h1 := hX.out.wbl
              rw [e, hX.out.rbl] at h1
              simp only [Option.some.injEq, Obj.cells.injEq] at h1
              exact absurd h1.2.1 (by decide)
            have hlow : Hid (g < wb ∧ g < rb ∧ og < wb ∧ og < rb) := by
              have h1 := hX.out.hw
              have h2 := hX.out.hr
              have h3 := World.block_lt_of_cell? _ _ (ko3.out.cell i1)
              have h4 := World.block_lt_of_cell? _ _ (ko3.out.cell p2)
              dsimp only at h3 h4
              exact ⟨by omega, by omega, by omega, by omega⟩
            clear hxc hbl hok hgd k1 hgB hnl i1 i2 p1 p2 hn hx
            go_upto_region 9 with fail
            refine wp_region_noPanic ?_
            refine wp_region_held_drew (S := fun W => W.cell? ⟨wb, 34, none⟩ = some (.slice (some ⟨rb, 0, none⟩) c.length c.length) ∧ W.cell? ⟨s, 1, none⟩ = some (.slice (some ⟨g, o, none⟩) B.length cap) ∧ W.cell? ⟨g, o + k, none⟩ = some (.slice (some ⟨og, oo, none⟩) bl c0) ∧ W.cell? ⟨og, oo + n * 2 + 1, none⟩ = some (.int .i64 xc)) (by kernel_rfl) ⟨((Old.refl wr).drewN 1).cell u0, ((Old.refl wr).drewN 1).cell u1, ((Old.refl wr).drewN 1).cell u2, ((Old.refl wr).drewN 1).cell u3⟩ (fun hHeld => ?_)
            have koV : Hid (Old wr wr.drew) := (Old.refl wr).drewN 1
            generalize wr.drew = V at *
            refine' qtk (i := 0) rfl (fun _ _ _ h => h) (Or.inl ⟨by rfl, ?_⟩) hHeld ?_
            rotate_left
            · intro W hSw
              obtain ⟨r1, r2, r3, r4⟩ := hSw
              simp only [qqa, qqb]
              go_simp
              all_goals with_reducible rfl
            simp only [qqa, qqb, Act.put, qqd, qqe, qqf]
            refine' qtk (i := 1) rfl (fun _ _ _ h => h) (Or.inl ⟨by rfl, ?_⟩) hHeld ?_
            rotate_left
            · intro W hSw
              obtain ⟨r1, r2, r3, r4⟩ := hSw
              simp only [qqa, qqb, qqc]
              go_simp
              all_goals with_reducible rfl
            simp only [qqa, qqb, qqc, Act.put, qqd, qqe, qqf]
            refine' qtk (i := 2) rfl (fun _ _ _ h => h) (Or.inl ⟨by rfl, ?_⟩) hHeld ?_
            rotate_left
            · intro W hSw
              obtain ⟨r1, r2, r3, r4⟩ := hSw
              simp only [qqa, qqb, qqc]
              go_simp
              all_goals with_reducible rfl
            simp only [qqa, qqb, qqc, Act.put, qqd, qqe, qqf]
            refine' qtk (i := 3) rfl (fun _ _ _ h => h) (Or.inl ⟨by rfl, ?_⟩) hHeld ?_
            rotate_left
            · intro W hSw
              obtain ⟨r1, r2, r3, r4⟩ := hSw
              simp only [qqa, qqb, qqc]
              go_simp
              all_goals with_reducible rfl
            simp only [qqa, qqb, qqc, Act.put, qqd, qqe, qqf]
            refine' qtk (i := 4) rfl (fun _ _ _ h => h) (Or.inl ⟨by rfl, ?_⟩) hHeld ?_
            rotate_left
            · intro W hSw
              obtain ⟨r1, r2, r3, r4⟩ := hSw
              simp only [qqa, qqb, qqc]
              go_simp
              all_goals with_reducible rfl
            simp only [qqa, qqb, qqc, Act.put, qqd, qqe, qqf]
            refine' qtk (i := 5) rfl (fun _ _ _ h => h) (Or.inl ⟨by rfl, ?_⟩) hHeld ?_
            rotate_left
            · intro W hSw
              obtain ⟨r1, r2, r3, r4⟩ := hSw
              simp only [qqa, qqb, qqc]
              go_simp
              all_goals with_reducible rfl
            simp only [qqa, qqb, qqc, Act.put, qqd, qqe, qqf]
            refine' qtk (i := 6) rfl (fun _ _ _ h => h) (Or.inl ⟨by rfl, ?_⟩) hHeld ?_
            rotate_left
            · intro W hSw
              obtain ⟨r1, r2, r3, r4⟩ := hSw
              simp only [qqa, qqb, qqc]
              go_simp
              all_goals with_reducible rfl
            simp only [qqa, qqb, qqc, Act.put, qqd, qqe, qqf]
            refine' qtk (i := 7) rfl (fun _ _ _ h => h) (Or.inl ⟨by rfl, ?_⟩) hHeld ?_
            rotate_left
            · intro W hSw
              obtain ⟨r1, r2, r3, r4⟩ := hSw
              simp only [qqa, qqb, qqc]
              go_simp
              all_goals with_reducible rfl
            simp only [qqa, qqb, qqc, Act.put, qqd, qqe, qqf]
            refine' qtk (i := 8) rfl (fun _ _ _ h => h) (Or.inl ⟨by rfl, ?_⟩) hHeld ?_
            rotate_left
            · intro W hSw
              obtain ⟨r1, r2, r3, r4⟩ := hSw
              simp only [qqa, qqb, qqc]
              go_simp
              all_goals with_reducible rfl
            simp only [qqa, qqb, qqc, Act.put, qqd, qqe, qqf]
            refine' qtk (i := 9) rfl (fun _ _ _ h => h) (Or.inl ⟨by rfl, ?_⟩) hHeld ?_
            rotate_left
            · intro W hSw
              obtain ⟨r1, r2, r3, r4⟩ := hSw
              simp only [qqa, qqb, qqc]
              go_simp
              all_goals with_reducible rfl
            simp only [qqa, qqb, qqc, Act.put, qqd, qqe, qqf]
            refine' qtk (i := 10) rfl (fun _ _ _ h => h) (Or.inl ⟨by rfl, ?_⟩) hHeld ?_
            rotate_left
            · intro W hSw
              obtain ⟨r1, r2, r3, r4⟩ := hSw
              simp only [qqa, qqb, qqc]
              go_simp
              all_goals with_reducible rfl
            simp only [qqa, qqb, qqc, Act.put, qqd, qqe, qqf]
            refine' qtk (i := 11) rfl (fun _ _ _ h => h) (Or.inl ⟨by rfl, ?_⟩) hHeld ?_
            rotate_left
            · intro W hSw
              obtain ⟨r1, r2, r3, r4⟩ := hSw
              simp only [qqa, qqb, qqc]
              go_simp
              all_goals with_reducible rfl
            simp only [qqa, qqb, qqc, Act.put, qqd, qqe, qqf]
            refine' qtk (i := 12) rfl (fun _ _ _ h => h) (Or.inl ⟨by rfl, ?_⟩) hHeld ?_
            rotate_left
            · intro W hSw
              obtain ⟨r1, r2, r3, r4⟩ := hSw
              simp only [qqa, qqb, qqc]
              go_simp
              all_goals with_reducible rfl
            simp only [qqa, qqb, qqc, Act.put, qqd, qqe, qqf]
            refine' qtk (i := 13) rfl (fun _ _ _ h => h) (Or.inl ⟨by rfl, ?_⟩) hHeld ?_
            rotate_left
            · intro W hSw
              obtain ⟨r1, r2, r3, r4⟩ := hSw
              simp only [qqa, qqb, qqc]
              go_simp
              all_goals with_reducible rfl
            simp only [qqa, qqb, qqc, Act.put, qqd, qqe, qqf]
            refine' qtk (i := 14) rfl (fun _ _ _ h => h) (Or.inl ⟨by rfl, ?_⟩) hHeld ?_
            rotate_left
            · intro W hSw
              obtain ⟨r1, r2, r3, r4⟩ := hSw
              simp only [qqa, qqb, qqc]
              go_simp
              all_goals with_reducible rfl
            simp only [qqa, qqb, qqc, Act.put, qqd, qqe, qqf]
            have hb1 := (koV.out.block _ (blk_lt hX.out.wbl) (fun h => h)).trans hX.out.wbl
            have hb2 := (koV.out.block _ (blk_lt hX.out.rbl) (fun h => h)).trans hX.out.rbl
            have e1 := blk_cells (i := 2 + k) hb1 (wonA_w _ _ _ _ (by omega))
            have f1 := blk_fz hb1 (2 + k)
            have b5 := heap_set (i := 2 + k) (.bool true) hb1
            have fS1 := frm_set V wb (2 + k) (.bool true)
            have hsw2 := hsw.out
            have hlow2 := hlow.out
            have hwr2 := hwr.out
            refine wpAnyH_ready (rs := [15]) (by kernel_rfl) (by simp) ?_
            refine AllReadyH.cons (o := _) rfl (fun K hK => ?_) AllReadyH.nil
            simp only [qqa, qqb, qqc]
            go_simp
            refine hK.out _ _ (⟨set_oth hHeld.1 (by omega), frm_cell fS1 hHeld.2.1 (by dsimp only; omega), frm_cell fS1 hHeld.2.2.1 (by dsimp only; omega), frm_cell fS1 hHeld.2.2.2 (by dsimp only; omega)⟩) (fun hHeld2 => ?_)
            clear hHeld hK
            have hHeld := hHeld2
            clear hHeld2
            try simp only [Act.put]
            have hb2 := (fS1.block _ (blk_lt hb2) (by omega)).trans hb2
            generalize V.setCell ⟨wb, 2 + k, none⟩ (.bool true) = V2 at *
            refine' qtk (i := 16) rfl (fun _ _ _ h => h) (Or.inl ⟨by rfl, ?_⟩) hHeld ?_
            rotate_left
            · intro W hSw
              obtain ⟨r1, r2, r3, r4⟩ := hSw
              simp only [qqa, qqb, qqc]
              go_simp
              all_goals with_reducible rfl
            simp only [qqa, qqb, qqc, Act.put, qqd, qqe, qqf]
            have hKl : k < ((wonK B c k).map (Value.int .i64)).length := by rw [List.length_map, wonK_len]; exact hkB
            have e2 := blk_cells (i := k) (v := (((wonK B c k).map (Value.int .i64))[k]'hKl)) hb2 (by simp)
            have f2 := blk_fz hb2 k
            have b6 := heap_set (i := k) (.int .i64 xc) hb2
            have fS2 := frm_set V2 rb k (.int .i64 xc)
            generalize ((wonK B c k).map (Value.int .i64))[k]'hKl = oldv at *
            refine wpAnyH_ready (rs := [17]) (by kernel_rfl) (by simp) ?_
            refine AllReadyH.cons (o := _) rfl (fun K hK => ?_) AllReadyH.nil
            simp only [qqa, qqb, qqc]
            go_simp
            refine hK.out _ _ ⟨frm_cell fS2 hHeld.1 (by dsimp only; omega), frm_cell fS2 hHeld.2.1 (by dsimp only; omega), frm_cell fS2 hHeld.2.2.1 (by dsimp only; omega), frm_cell fS2 hHeld.2.2.2 (by dsimp only; omega)⟩ (fun _ => ?_)
            try simp only [Act.put]
            refine wpAnyH_done (by kernel_rfl) ?_ _
            refine NoPanic.normal ?_
            have kCL : Hid (CLs w3 (V2.setCell ⟨rb, k, none⟩ (.int .i64 xc)) wb rb gd (.slice (some ⟨g, o, none⟩) B.length cap) B c (k + 1)) := by
              refine ⟨Frm.trans (Frm.trans (hX.out.old.trans koV.out) fS1 (fun i hi e => by have := hX.out.hw; omega)) fS2 (fun i hi e => by have := hX.out.hr; omega), ?_, ?_, hX.out.hw, hX.out.hr⟩
              · rw [fS2.block _ (blk_lt b5) (by omega), b5, kA.out]
              · rw [b6, ← wonK_set, kwz.out]
                simp
            clear hHeld hK e1 e2 f1 f2 b5 b6 fS1 fS2
            go_wp2_with fail
            go_roundw
            case rel => exact ⟨k + 1, by omega, by go_num, kCL⟩
            case measure => simp [intOf]; omega
          · have kA := hid (wonA_skip gd (.slice bo B.length cap) c (.slice (some ⟨rb, 0, none⟩) c.length c.length) hlt hx)
            have kK : Hid (wonK B c (k + 1) = wonK B c k) := wonK_skip (by rw [hgd]; exact hx)
            have kCL : Hid (CLs w3 wr wb rb gd (.slice bo B.length cap) B c (k + 1)) := ⟨hX.out.old, by rw [kA.out]; exact hX.out.wbl, by rw [kK.out]; exact hX.out.rbl, hX.out.hw, hX.out.hr⟩
            have hxb : decide (0 ≤ c[k]) = false := by simpa using hx
            clear hok hgd k1
            generalize c[k] = n at *
            go_wp2_with fail
            go_roundw
            case rel => exact ⟨k + 1, by omega, by go_num, kCL⟩
            case measure => simp [intOf]; omega
        · obtain rfl : k = c.length := by omega
          have hlt' : ¬ (c.length : Int) < (c.length : Int) := by omega
          have hb1 := hX.out.wbl
          have hb2 := hX.out.rbl
          rw [List.take_length] at hb1
          rw [khcl.out, wonK_end] at hb2
          have hNe : Hid (s + 1 < rb ∧ s + 1 < wb) := by
            have h1 := hX.out.hr
            have h2 := blk_lt kbR.out
            have h3 := hX.out.hw
            exact ⟨by omega, by omega⟩
          have kbR := hid ((hX.out.old.block _ (blk_lt kbR.out) (fun h => h)).trans kbR.out)
          have kb1 := hid hb1
          have kb2 := hid hb2
          have koX := hid (ko3.out.trans hX.out.old)
          have khr := hid hX.out.hr
          clear hb1 hb2 hX
          go_upto_region 11 with fail
          refine wp_region_lit ?_
          refine wpList_load_row rfl 65 _ rfl wb rfl 65 _ (0, 0) _ kb1.out Tryz.underlying65 rfl (wonA_info ..) ?_
          simp only [Act.put, qqd, qqe, qqf]
          refine wpList_store_row rfl 65 _ _ rfl (s + 1) _ rfl rfl 65 _ kbR.out (wonA_info ..) (by rw [wonA_size, wonA_size]) (wonA_one _ _ _ _ rfl rfl) ?_
          simp only [Act.put]
          go_wp2_with fail
          have oS := frm_setRow wr (s + 1) (wonA gd (.slice bo B.length cap) c (.slice (some ⟨rb, 0, none⟩) c.length c.length))
          refine bodyPost_ret (results_cell_slot rfl _ _ (s + 1) 65 _ (0, 0) _ rfl (setRow_heap _ _ _ _ _ _ kbR.out) Tryz.underlying65 rfl (wonA_info ..)) rfl ?_
          refine ⟨Frm.trans koX.out oS (fun i hi e => by have := kss.out; omega), .inl ⟨khz.out, _, by rw [kc.out]; rfl, ?_, _, _, _, rfl⟩⟩
          rw [kc.out]
          refine ⟨_, _, by rw [won_len, khcl.out], .inr ⟨rb, ((wonL B c).map (Value.int .i64)).toArray, rfl, by have := kss.out; have := hNe.out; omega, ?_, ?_⟩⟩
          · rw [oS.block _ (blk_lt kb2.out) (by have := hNe.out; omega)]
            exact kb2.out
          · simp [List.take_of_length_le]
  · have hzb : (insZ gd B != 0) = true := by simpa using hz
    have khz := hid hz
    clear hz x0 x1 y0
    go_upto_region 3 with fail
    generalize w2.alloc (.cells #[.slice ao (cosC gd B).length cc, .int .i64 (frZ gd B 0 (allZ gd).1)] 71) = w3 at *
    refine wp_region_lit ?_
    refine wpList_buildW rfl rfl ?_
    simp only [Act.put, qqd, qqe, qqf]
    go_wp2_with (refine wpList_store_row rfl 65 _ _ rfl (s + 1) _ rfl rfl 65 _ kbR.out (wonA_info ..) (by rw [wonA_size]) (wonA_one _ _ _ _ rfl rfl) ?_)
    have oS := frm_setRow w3 (s + 1) (wonA 0 nilS [] nilS)
    refine bodyPost_ret (results_cell_slot rfl _ _ (s + 1) 65 _ (0, 0) _ rfl (setRow_heap _ _ _ _ _ _ kbR.out) Tryz.underlying65 rfl (wonA_info ..)) rfl ?_
    exact ⟨Frm.trans ko3.out oS (fun i hi e => by have := kss.out; omega), .inr ⟨khz.out, rfl⟩⟩
end Go.Proofs.YtfoadheepmgbfaaGreatDoor
