/- The document's Costs: walked. -/
import Derived.Test.YtidocjgcckcooaaDoorJ24
import Derived.Test.YtidocjgcckcooaaDoorJ25
namespace Go.Proofs.YtidocjgcckcooaaDoor
open Go.RowKit Go.Lib Go.Shelf
attribute [local go_sem] Oper.semAt_some



/-- Numbers in memory behind a row that one owns. -/
theorem wpAppN {ops : Array Oper} {rest : List Oper} {o : Oper} {a : Act} {Q : Exit → Act → World → Prop} {w : World} (hgd : o.guard = none) (s x : Operand) (ho : o.op = .call { callee := .builtin .append, args := #[s, x], argTypes := #[29, 29] })
    (B : Nat) (v : Value) (xo : Option Addr) (c2 : Nat) (L1 L2 : List Int) (hs : a.eval s = v) (hx : a.eval x = .slice xo L2.length c2) (hown : w.ownsRow B 2 1 v L1.length (L1.map (Value.int .i64))) (hO : NumsC .i64 w xo L2) (hn : xo = none → c2 = 0) (hl : L1.length + L2.length ≤ 1000000) (hB : B ≤ w.heap.size)
    (h : ∀ v' w', w'.ownsRow B 2 1 v' (L1 ++ L2).length ((L1 ++ L2).map (Value.int .i64)) → w.grownBy w' v.ownBlock → wpList Tryd.prog ops Q rest (a.put o.dst v') w') : wpList Tryd.prog ops Q (o :: rest) a w := by
  obtain ⟨i0, hi0, hz0, hz1, hz2⟩ := parts_n
  cases xo with
  | none =>
    obtain rfl := nums_none hO
    rw [hn rfl] at hx
    refine wpList_append_own_none hgd s x 29 ho B 2 i0 1 Tryd.underlying29 hi0 v L1.length (L1.map (Value.int .i64)) hs hown hx ?_
    refine h v w (by simpa using hown) ⟨rfl, rfl, rfl, Nat.le_refl _, fun _ _ _ => rfl⟩
  | some ad =>
    have hsp : L2 = [] ∨ ∃ g o, ad = ⟨g, o, none⟩ := by
      by_cases h0 : 0 < L2.length
      · obtain ⟨g, o, e, _⟩ := hO 0 h0
        exact Or.inr ⟨g, o, Option.some.inj e⟩
      · exact Or.inl (List.eq_nil_of_length_eq_zero (by omega))
    have hc : ∀ (j : Nat) (u : Value), (L2.map (Value.int .i64))[j]? = some u → w.cell? (ad.add j) = some u := by
      rcases hsp with rfl | ⟨g, o, rfl⟩
      · intro j u hu
        simp at hu
      · exact num_cells hO
    exact wpList_append_own _ hgd s x 29 ho B 2 i0 _ 1 8 Tryd.underlying29 hi0 hz0 hz1 hz2 rfl (by omega) v L1.length (L1.map (Value.int .i64)) hs hown ad L2.length c2 (L2.map (Value.int .i64)) hx (by simp) hc (ints_one L2) (by unfold maxLen; omega) (by omega) hB (fun v' w' h8 h9 _ => h v' w' (by rw [List.length_append, List.map_append]; exact h8) h9)


theorem own_formL {w : World} {B : Nat} {v : Value} {n : Nat} {xs : List Value} (h : w.ownsRow B 2 1 v n xs) : ∃ a c, v = .slice a n c := by
  rcases h.2 with ⟨rfl, h0⟩ | ⟨g, cap, cur, rfl, _⟩
  · exact ⟨none, 0, by rw [h0]⟩
  · exact ⟨_, _, rfl⟩
/-- What the first k pay. -/
def payT (B : Ins) (f : Nat) (c : List Int) (k : Nat) : List Int := (List.range k).map (payZ B f c)
theorem payT_len (B : Ins) (f : Nat) (c : List Int) (k : Nat) : (payT B f c k).length = k := by simp [payT]
theorem payT_succ (B : Ins) (f : Nat) (c : List Int) (k : Nat) : payT B f c (k + 1) = payT B f c k ++ [payZ B f c k] := by simp [payT, List.range_succ]

/-- Where the document's Costs stands. -/
structure PK (w wr : World) (gd : Int) (B : Ins) (bo : Option Addr) (cap f xb pb : Nat) (ca : Option Addr) (cc : Nat) (c : List Int) (bz : Int) (i : Nat) (v : Value) : Prop where
  old : Old w wr
  lo : w.heap.size ≤ xb
  x : wr.heap[xb]? = some (.cells #[.int .i64 gd, .slice bo B.length cap] 24 (0, 0))
  r : wr.heap[xb + 1]? = some (.cells #[.slice none 0 0, .int .i64 0, .slice none 0 0] 31 (0, 0))
  p : wr.heap[pb]? = some (.cells #[.slice ca c.length cc, .int .i64 bz, v] 31 (0, 0))
  pr : xb + 1 < pb
  ch : NewZ w.heap.size wr (.slice ca c.length cc) c
  row : wr.ownsRow w.heap.size 2 1 v i ((payT B f c i).map (Value.int .i64))

theorem PK.olds {w wr w2 : World} {gd : Int} {B : Ins} {bo : Option Addr} {cap f xb pb : Nat} {ca : Option Addr} {cc : Nat} {c : List Int} {bz : Int} {i : Nat} {v : Value} (h : PK w wr gd B bo cap f xb pb ca cc c bz i v) (o : Old wr w2) : PK w w2 gd B bo cap f xb pb ca cc c bz i v :=
  ⟨h.old.trans o, h.lo, (o.block _ (blk_lt h.x) (fun h => h)).trans h.x, (o.block _ (blk_lt h.r) (fun h => h)).trans h.r, (o.block _ (blk_lt h.p) (fun h => h)).trans h.p, h.pr, h.ch.old o, owns_kept h.row (fun q hq => by obtain ⟨cur, hc⟩ := owns_block h.row hq; exact o.block q (blk_lt hc) (fun h => h))⟩

theorem PK.at {w wr w2 : World} {gd : Int} {B : Ins} {bo : Option Addr} {cap f xb pb : Nat} {ca : Option Addr} {cc : Nat} {c : List Int} {bz : Int} {i : Nat} {v : Value} (h : PK w wr gd B bo cap f xb pb ca cc c bz i v) (hf : Frm (fun q => v.ownBlock = some q) wr w2) : w2.heap[pb]? = some (.cells #[.slice ca c.length cc, .int .i64 bz, v] 31 (0, 0)) := by
  refine (hf.block _ (blk_lt h.p) (fun e => ?_)).trans h.p
  obtain ⟨cur', hc'⟩ := owns_block h.row e
  exact typ_no h.p hc' (by decide) rfl

theorem PK.next {w wr w2 : World} {gd : Int} {B : Ins} {bo : Option Addr} {cap f xb pb : Nat} {ca : Option Addr} {cc : Nat} {c : List Int} {bz : Int} {i : Nat} {v v' : Value} (h : PK w wr gd B bo cap f xb pb ca cc c bz i v)
    (hf : Frm (fun q => v.ownBlock = some q) wr w2) (hown : w2.ownsRow w.heap.size 2 1 v' (i + 1) ((payT B f c (i + 1)).map (Value.int .i64))) : PK w (w2.setCell ⟨pb, 2, none⟩ v') gd B bo cap f xb pb ca cc c bz (i + 1) v' := by
  have hne : ∀ q a t, t ≠ 2 → wr.heap[q]? = some (.cells a t (0, 0)) → ¬ v.ownBlock = some q := fun q a t ht hq e => by
    obtain ⟨cur', hc'⟩ := owns_block h.row e
    exact typ_no hq hc' ht rfl
  have hx := (hf.block _ (blk_lt h.x) (hne _ _ _ (by decide) h.x)).trans h.x
  have hr := (hf.block _ (blk_lt h.r) (hne _ _ _ (by decide) h.r)).trans h.r
  have hp := h.at hf
  have hs := frm_set w2 pb 2 v'
  have hpr := h.pr
  have hlo := h.lo
  have hold : Old w w2 := Frm.trans (S := fun _ => False) h.old hf (fun i hi e => by
    rcases h.row.2 with ⟨e2, _⟩ | ⟨q, c, cur, e2, h3, _⟩
    · rw [e2] at e; simp [Value.ownBlock] at e
    · rw [e2] at e
      simp [Value.ownBlock] at e
      omega)
  have hch : NewZ w.heap.size w2 (.slice ca c.length cc) c := by
    obtain ⟨ao, c', e1, h2⟩ := h.ch
    refine ⟨ao, c', e1, h2.imp id ?_⟩
    rintro ⟨b, cur, e2, e3, e4, e5⟩
    exact ⟨b, cur, e2, e3, (hf.block _ (blk_lt e4) (hne _ _ _ (by decide) e4)).trans e4, e5⟩
  refine ⟨Frm.trans (S := fun _ => False) hold hs (fun i hi e => by omega), hlo, (hs.block _ (blk_lt hx) (by omega)).trans hx, (hs.block _ (blk_lt hr) (by omega)).trans hr, heap_set v' hp, hpr, hch.frm5 hs hp (by decide), ?_⟩
  refine owns_kept hown (fun q hq => ?_)
  obtain ⟨cur, hcc⟩ := owns_block hown hq
  exact hs.block q (blk_lt hcc) (fun e => by subst e; exact typ_no hp hcc (by decide) rfl)



set_option maxRecDepth 100000 in
set_option maxHeartbeats 8000000 in
theorem rcosts_any (gd : Int) (bo : Option Addr) (cap : Nat) (B : Ins) (w : World) (h : InsC w bo B) (hV : InsV w bo B) (hl : B.length ≤ 9223372036854775807) :
    Calls Tryd.prog 12 #[.agg #[.int .i64 gd, .slice bo B.length cap]] w (CosP gd B w) := by
  have o1 : Old w (w.alloc (.cells #[.int .i64 gd, .slice bo B.length cap] 24)) := (Old.refl w).alloc _
  have b1 := heap_new w (.cells #[.int .i64 gd, .slice bo B.length cap] 24)
  have z1 := alloc_size w (.cells #[.int .i64 gd, .slice bo B.length cap] 24)
  have o2 : Old (w.alloc (.cells #[.int .i64 gd, .slice bo B.length cap] 24)) ((w.alloc (.cells #[.int .i64 gd, .slice bo B.length cap] 24)).alloc (.cells #[.slice none 0 0, .int .i64 0, .slice none 0 0] 31)) := (Old.refl _).alloc _
  have b2 := heap_new (w.alloc (.cells #[.int .i64 gd, .slice bo B.length cap] 24)) (.cells #[.slice none 0 0, .int .i64 0, .slice none 0 0] 31)
  obtain ⟨s, hs⟩ : ∃ s, w.heap.size = s := ⟨_, rfl⟩
  have kss := hid hs
  rw [hs] at b1 z1
  rw [z1] at b2
  have b1 := (o2.block s (blk_lt b1) (fun h => h)).trans b1
  have x0 := blk_cells (i := 0) b1 rfl
  have x1 := blk_cells (i := 1) b1 rfl
  simp only [List.getElem_toArray, List.getElem_cons_zero, List.getElem_cons_succ] at x0 x1
  have kb1 := hid b1
  have kbR := hid b2
  have ko := hid (o1.trans o2)
  have kh := hid h
  have kV := hid hV
  have klt := hid (ins_lt h)
  have kI := hid (rinst_any gd bo cap B _ (h.old ko.out) hl)
  clear o1 o2 b1 b2 z1 h hV
  go_enter Tryd.func12, Tryd.ntmps12
  go_wp2_with fail
  generalize (w.alloc (.cells #[.int .i64 gd, .slice bo B.length cap] 24)).alloc (.cells #[.slice none 0 0, .int .i64 0, .slice none 0 0] 31) = w1 at *
  refine kI.out.mono ?_
  rintro e w2 ⟨rfl, o2⟩
  have x0 := o2.cell x0
  have x1 := o2.cell x1
  have kb1 := hid ((o2.block _ (blk_lt kb1.out) (fun h => h)).trans kb1.out)
  have kbR := hid ((o2.block _ (blk_lt kbR.out) (fun h => h)).trans kbR.out)
  have ko2 := hid (ko.out.trans o2)
  clear o2 ko kI
  by_cases hz : insZ gd B = 0
  · have tp := tops_of hz klt.out
    obtain ⟨m, rfl, hm1, hm10, ha⟩ := tp.m
    have hw := win_of hz klt.out
    obtain ⟨hcW, hcP⟩ := cos_good hz
    have hb45 := best_45 hz klt.out
    have hpt : ptC (m : Int) B 0 (allZ (m : Int)).1 = dP 0 B 0 (allZ (m : Int)).1 := pt_doc (k := 0) (Nat.zero_le _) (by show ckZ (m : Int) B 0 _ = 0; rw [ck_zero]; exact hz)
    have hcC : cosC (m : Int) B = dP 0 B 0 (allZ (m : Int)).1 := hpt
    rw [hpt] at hw
    rw [hcC] at hcP
    obtain ⟨f, hf⟩ : ∃ f, (allZ (m : Int)).1 = f := ⟨_, rfl⟩
    rw [hf] at hw hcW hcP hcC hb45
    have hf2 : 2 ^ m - 1 = f := by rw [← ha]; exact hf
    obtain ⟨c, hc⟩ : ∃ c, dP 0 B 0 f = c := ⟨_, rfl⟩
    obtain ⟨bz, hbz⟩ : ∃ bz, best B f = bz := ⟨_, rfl⟩
    rw [hc] at hw hcP hcC
    rw [hbz] at hcW hb45
    have kBe := hid (fun W (o : Old w W) => rb_any m bo cap B W (kh.out.old o) hz)
    have kWw := hid (fun W (o : Old w W) => rw_any m bo cap B W (kh.out.old o) hz)
    rw [hf2] at kBe kWw
    rw [hc] at kBe
    rw [hbz] at kWw
    have kwo := hid (fun (i : Nat) (hi : i < B.length) => wo_is (k := i) hz hi)
    rw [hf] at kwo
    have kw := hid hw
    have kcos : Hid (cosW (m : Int) B = bz ∧ cosC (m : Int) B = c ∧ cosP (m : Int) B = payL B f c) := ⟨hcW, hcC, hcP⟩
    have kf := hid hf
    have kbz := hid hbz
    have khz := hid hz
    have hfew := hw.few
    have khcl := hid hw.len
    rw [hz]
    clear hz tp ha hpt hcC hcW hcP hw hf hf2 hc hbz
    go_upto_region 4 with fail
    go_cut [5] from 16 to 20 (fun t5 wx => ∃ pb ca cc, t5 = .pointer (some ⟨pb, 0, none⟩) ∧ Hid (PK w wx (m : Int) B bo cap f s pb ca cc c bz 0 (.slice none 0 0)))
    case first =>
      have od : Old w2 w2.drew := (Old.refl w2).drewN 1
      refine wp_region_noPanic ?_
      refine wp_region_held_drew (S := fun W => W.cell? ⟨s, 0, none⟩ = some (.int .i64 (m : Int)) ∧ W.cell? ⟨s, 1, none⟩ = some (.slice bo B.length cap)) (by kernel_rfl) ⟨od.cell x0, od.cell x1⟩ (fun hHeld => ?_)
      have kO := hid (ko2.out.trans od)
      have kb1 := hid ((od.block _ (blk_lt kb1.out) (fun h => h)).trans kb1.out)
      have kbR := hid ((od.block _ (blk_lt kbR.out) (fun h => h)).trans kbR.out)
      clear od x0 x1
      generalize w2.drew = X at *
      refine' wpAnyH_take (i := 0) rfl (by kernel_rfl) (by kernel_rfl) (by kernel_rfl) (fun _ _ _ h => h) (Or.inl ⟨by rfl, ?_⟩) hHeld ?_
      rotate_left
      · intro W hSw
        obtain ⟨r1, r2⟩ := hSw
        simp only [List.getElem_toArray, List.getElem_cons_zero]
        go_simp
        all_goals with_reducible rfl
      simp only [List.getElem_toArray, List.getElem_cons_zero, Act.put, List.setIfInBounds_toArray, List.set_cons_zero, List.set_cons_succ]
      refine' wpAnyH_take (i := 2) rfl (by kernel_rfl) (by kernel_rfl) (by kernel_rfl) (fun _ _ _ h => h) (Or.inl ⟨by rfl, ?_⟩) hHeld ?_
      rotate_left
      · intro W hSw
        obtain ⟨r1, r2⟩ := hSw
        simp only [List.getElem_toArray, List.getElem_cons_zero, List.getElem_cons_succ]
        go_simp
        all_goals with_reducible rfl
      simp only [List.getElem_toArray, List.getElem_cons_zero, List.getElem_cons_succ, Act.put, List.setIfInBounds_toArray, List.set_cons_zero, List.set_cons_succ]
      refine wpAnyH_ready (rs := [1, 5]) (by kernel_rfl) (by simp) ?_
      refine AllReadyH.cons (o := _) rfl (fun K hK => ?_) (AllReadyH.cons (o := _) rfl (fun K hK => ?_) AllReadyH.nil)
      · simp only [List.getElem_toArray, List.getElem_cons_zero, List.getElem_cons_succ]
        go_simp
        refine (kBe.out X kO.out).mono ?_
        rintro e Y ⟨cv, rfl, hzv, oB⟩
        obtain ⟨ca, cc, hv, -⟩ := id hzv
        subst hv
        refine hK.out _ _ (⟨oB.cell hHeld.1, oB.cell hHeld.2⟩) (fun hHeld2 => ?_)
        clear hHeld hK
        have hHeld := hHeld2
        clear hHeld2
        try simp only [Act.put, List.setIfInBounds_toArray, List.set_cons_zero, List.set_cons_succ]
        have kz := hid (hzv.up kO.out.size)
        have kO := hid (kO.out.trans oB)
        have kb1 := hid ((oB.block _ (blk_lt kb1.out) (fun h => h)).trans kb1.out)
        have kbR := hid ((oB.block _ (blk_lt kbR.out) (fun h => h)).trans kbR.out)
        clear hzv
        refine wpAnyH_ready (rs := [3, 5]) (by kernel_rfl) (by simp) ?_
        refine AllReadyH.cons (o := _) rfl (fun K hK => ?_) (AllReadyH.cons (o := _) rfl (fun K hK => ?_) AllReadyH.nil)
        · simp only [List.getElem_toArray, List.getElem_cons_zero, List.getElem_cons_succ]
          go_simp
          refine (kWw.out Y kO.out).mono ?_
          rintro e Z ⟨rfl, oW⟩
          refine hK.out _ _ (⟨oW.cell hHeld.1, oW.cell hHeld.2⟩) (fun hHeld2 => ?_)
          clear hHeld hK
          have hHeld := hHeld2
          clear hHeld2
          try simp only [Act.put, List.setIfInBounds_toArray, List.set_cons_zero, List.set_cons_succ]
          have kO := hid (kO.out.trans oW)
          have kb1 := hid ((oW.block _ (blk_lt kb1.out) (fun h => h)).trans kb1.out)
          have kbR := hid ((oW.block _ (blk_lt kbR.out) (fun h => h)).trans kbR.out)
          have kz := hid (kz.out.old oW)
          clear oW
          refine' wpAnyH_take (i := 4) rfl (by kernel_rfl) (by kernel_rfl) (by kernel_rfl) (fun _ _ _ h => h) (Or.inl ⟨by rfl, ?_⟩) hHeld ?_
          rotate_left
          · intro W hSw
            obtain ⟨r1, r2⟩ := hSw
            simp only [List.getElem_toArray, List.getElem_cons_zero, List.getElem_cons_succ]
            go_simp
            all_goals with_reducible rfl
          simp only [List.getElem_toArray, List.getElem_cons_zero, List.getElem_cons_succ, Act.put, List.setIfInBounds_toArray, List.set_cons_zero, List.set_cons_succ]
          refine wpAnyH_ready (rs := [5]) (by kernel_rfl) (by simp) ?_
          refine AllReadyH.cons (o := _) rfl (fun K hK => ?_) AllReadyH.nil
          simp only [List.getElem_toArray, List.getElem_cons_zero, List.getElem_cons_succ]
          go_simp
          have qa : Old Z (Z.alloc (.cells #[.slice none 0 0, .int .i64 0, .slice none 0 0] 31)) := (Old.refl Z).alloc _
          have bP := heap_new Z (.cells #[.slice none 0 0, .int .i64 0, .slice none 0 0] 31)
          refine hK.out _ _ (⟨qa.cell hHeld.1, qa.cell hHeld.2⟩) (fun hHeld2 => ?_)
          clear hHeld hK
          have hHeld := hHeld2
          clear hHeld2
          try simp only [Act.put, List.setIfInBounds_toArray, List.set_cons_zero, List.set_cons_succ]
          obtain ⟨pb, hpb⟩ : ∃ pb, Z.heap.size = pb := ⟨_, rfl⟩
          have kps : Hid (s + 1 < pb) := by have := blk_lt kbR.out; show _ < _; omega
          rw [hpb] at bP ⊢
          have kbP := hid bP
          have kO := hid (kO.out.trans qa)
          have kb1 := hid ((qa.block _ (blk_lt kb1.out) (fun h => h)).trans kb1.out)
          have kbR := hid ((qa.block _ (blk_lt kbR.out) (fun h => h)).trans kbR.out)
          clear bP hpb
          have kz := hid (kz.out.old qa)
          clear qa
          generalize Z.alloc (.cells #[.slice none 0 0, .int .i64 0, .slice none 0 0] 31) = Z2 at *
          have e0 := blk_cells (i := 0) kbP.out rfl
          have e1 := blk_fz kbP.out 0
          have b5 := heap_set (i := 0) (.slice ca c.length cc) kbP.out
          have e2 := blk_cells (i := 1) b5 rfl
          have e3 := blk_fz b5 1
          have b6 := heap_set (i := 1) (.int .i64 bz) b5
          have e4 := blk_cells (i := 2) b6 rfl
          have e5 := blk_fz b6 2
          have b7 := heap_set (i := 2) (.slice none 0 0) b6
          have kfP : Hid (Frm (fun q => q = pb) Z2 (((Z2.setCell ⟨pb, 0, none⟩ (.slice ca c.length cc)).setCell ⟨pb, 1, none⟩ (.int .i64 bz)).setCell ⟨pb, 2, none⟩ (.slice none 0 0))) := Frm.trans (Frm.trans (frm_set Z2 pb 0 (.slice ca c.length cc)) (frm_set _ pb 1 (.int .i64 bz)) (fun _ _ e => e)) (frm_set _ pb 2 (.slice none 0 0)) (fun _ _ e => e)
          have kpe := hid b7
          have hps := kps.out
          clear b5 b6 b7
          refine wpAnyH_ready (rs := [6]) (by kernel_rfl) (by simp) ?_
          refine AllReadyH.cons (o := _) rfl (fun K hK => ?_) AllReadyH.nil
          simp only [List.getElem_toArray, List.getElem_cons_zero, List.getElem_cons_succ]
          go_simp
          refine hK.out _ _ ⟨frm_cell kfP.out hHeld.1 (by dsimp only; omega), frm_cell kfP.out hHeld.2 (by dsimp only; omega)⟩ (fun _ => ?_)
          try simp only [Act.put, List.setIfInBounds_toArray, List.set_cons_zero, List.set_cons_succ]
          refine wpAnyH_done (by kernel_rfl) ?_ _
          refine NoPanic.normal ?_
          clear e0 e1 e2 e3 e4 e5
          have kPK : Hid (PK w (((Z2.setCell ⟨pb, 0, none⟩ (.slice ca c.length cc)).setCell ⟨pb, 1, none⟩ (.int .i64 bz)).setCell ⟨pb, 2, none⟩ (.slice none 0 0)) (m : Int) B bo cap f s pb ca cc c bz 0 (.slice none 0 0)) :=
            ⟨Frm.trans kO.out kfP.out (fun i hi e => by have := kss.out; omega), by have := kss.out; omega, (kfP.out.block _ (blk_lt kb1.out) (by omega)).trans kb1.out, (kfP.out.block _ (blk_lt kbR.out) (by omega)).trans kbR.out, kpe.out, hps, kz.out.frm5 kfP.out kbP.out (by decide), ⟨rfl, Or.inl ⟨rfl, rfl⟩⟩⟩
          go_wp2_with fail
          go_meet
          case rel => exact ⟨pb, ca, cc, rfl, kPK⟩
        · simp only [List.getElem_toArray, List.getElem_cons_zero, List.getElem_cons_succ]
          go_simp
          have qa : Old Y (Y.alloc (.cells #[.slice none 0 0, .int .i64 0, .slice none 0 0] 31)) := (Old.refl Y).alloc _
          have bP := heap_new Y (.cells #[.slice none 0 0, .int .i64 0, .slice none 0 0] 31)
          refine hK.out _ _ (⟨qa.cell hHeld.1, qa.cell hHeld.2⟩) (fun hHeld2 => ?_)
          clear hHeld hK
          have hHeld := hHeld2
          clear hHeld2
          try simp only [Act.put, List.setIfInBounds_toArray, List.set_cons_zero, List.set_cons_succ]
          obtain ⟨pb, hpb⟩ : ∃ pb, Y.heap.size = pb := ⟨_, rfl⟩
          have kps : Hid (s + 1 < pb) := by have := blk_lt kbR.out; show _ < _; omega
          rw [hpb] at bP ⊢
          have kbP := hid bP
          have kO := hid (kO.out.trans qa)
          have kb1 := hid ((qa.block _ (blk_lt kb1.out) (fun h => h)).trans kb1.out)
          have kbR := hid ((qa.block _ (blk_lt kbR.out) (fun h => h)).trans kbR.out)
          clear bP hpb
          have kz := hid (kz.out.old qa)
          clear qa
          generalize Y.alloc (.cells #[.slice none 0 0, .int .i64 0, .slice none 0 0] 31) = Y2 at *
          refine wpAnyH_ready (rs := [3]) (by kernel_rfl) (by simp) ?_
          refine AllReadyH.cons (o := _) rfl (fun K hK => ?_) AllReadyH.nil
          simp only [List.getElem_toArray, List.getElem_cons_zero, List.getElem_cons_succ]
          go_simp
          refine (kWw.out Y2 kO.out).mono ?_
          rintro e Z ⟨rfl, oW⟩
          refine hK.out _ _ (⟨oW.cell hHeld.1, oW.cell hHeld.2⟩) (fun hHeld2 => ?_)
          clear hHeld hK
          have hHeld := hHeld2
          clear hHeld2
          try simp only [Act.put, List.setIfInBounds_toArray, List.set_cons_zero, List.set_cons_succ]
          have kO := hid (kO.out.trans oW)
          have kb1 := hid ((oW.block _ (blk_lt kb1.out) (fun h => h)).trans kb1.out)
          have kbR := hid ((oW.block _ (blk_lt kbR.out) (fun h => h)).trans kbR.out)
          have kz := hid (kz.out.old oW)
          have kbP := hid ((oW.block _ (blk_lt kbP.out) (fun h => h)).trans kbP.out)
          clear oW
          refine' wpAnyH_take (i := 4) rfl (by kernel_rfl) (by kernel_rfl) (by kernel_rfl) (fun _ _ _ h => h) (Or.inl ⟨by rfl, ?_⟩) hHeld ?_
          rotate_left
          · intro W hSw
            obtain ⟨r1, r2⟩ := hSw
            simp only [List.getElem_toArray, List.getElem_cons_zero, List.getElem_cons_succ]
            go_simp
            all_goals with_reducible rfl
          simp only [List.getElem_toArray, List.getElem_cons_zero, List.getElem_cons_succ, Act.put, List.setIfInBounds_toArray, List.set_cons_zero, List.set_cons_succ]
          have e0 := blk_cells (i := 0) kbP.out rfl
          have e1 := blk_fz kbP.out 0
          have b5 := heap_set (i := 0) (.slice ca c.length cc) kbP.out
          have e2 := blk_cells (i := 1) b5 rfl
          have e3 := blk_fz b5 1
          have b6 := heap_set (i := 1) (.int .i64 bz) b5
          have e4 := blk_cells (i := 2) b6 rfl
          have e5 := blk_fz b6 2
          have b7 := heap_set (i := 2) (.slice none 0 0) b6
          have kfP : Hid (Frm (fun q => q = pb) Z (((Z.setCell ⟨pb, 0, none⟩ (.slice ca c.length cc)).setCell ⟨pb, 1, none⟩ (.int .i64 bz)).setCell ⟨pb, 2, none⟩ (.slice none 0 0))) := Frm.trans (Frm.trans (frm_set Z pb 0 (.slice ca c.length cc)) (frm_set _ pb 1 (.int .i64 bz)) (fun _ _ e => e)) (frm_set _ pb 2 (.slice none 0 0)) (fun _ _ e => e)
          have kpe := hid b7
          have hps := kps.out
          clear b5 b6 b7
          refine wpAnyH_ready (rs := [6]) (by kernel_rfl) (by simp) ?_
          refine AllReadyH.cons (o := _) rfl (fun K hK => ?_) AllReadyH.nil
          simp only [List.getElem_toArray, List.getElem_cons_zero, List.getElem_cons_succ]
          go_simp
          refine hK.out _ _ ⟨frm_cell kfP.out hHeld.1 (by dsimp only; omega), frm_cell kfP.out hHeld.2 (by dsimp only; omega)⟩ (fun _ => ?_)
          try simp only [Act.put, List.setIfInBounds_toArray, List.set_cons_zero, List.set_cons_succ]
          refine wpAnyH_done (by kernel_rfl) ?_ _
          refine NoPanic.normal ?_
          clear e0 e1 e2 e3 e4 e5
          have kPK : Hid (PK w (((Z.setCell ⟨pb, 0, none⟩ (.slice ca c.length cc)).setCell ⟨pb, 1, none⟩ (.int .i64 bz)).setCell ⟨pb, 2, none⟩ (.slice none 0 0)) (m : Int) B bo cap f s pb ca cc c bz 0 (.slice none 0 0)) :=
            ⟨Frm.trans kO.out kfP.out (fun i hi e => by have := kss.out; omega), by have := kss.out; omega, (kfP.out.block _ (blk_lt kb1.out) (by omega)).trans kb1.out, (kfP.out.block _ (blk_lt kbR.out) (by omega)).trans kbR.out, kpe.out, hps, kz.out.frm5 kfP.out kbP.out (by decide), ⟨rfl, Or.inl ⟨rfl, rfl⟩⟩⟩
          go_wp2_with fail
          go_meet
          case rel => exact ⟨pb, ca, cc, rfl, kPK⟩
      · simp only [List.getElem_toArray, List.getElem_cons_zero, List.getElem_cons_succ]
        go_simp
        have qa : Old X (X.alloc (.cells #[.slice none 0 0, .int .i64 0, .slice none 0 0] 31)) := (Old.refl X).alloc _
        have bP := heap_new X (.cells #[.slice none 0 0, .int .i64 0, .slice none 0 0] 31)
        refine hK.out _ _ (⟨qa.cell hHeld.1, qa.cell hHeld.2⟩) (fun hHeld2 => ?_)
        clear hHeld hK
        have hHeld := hHeld2
        clear hHeld2
        try simp only [Act.put, List.setIfInBounds_toArray, List.set_cons_zero, List.set_cons_succ]
        obtain ⟨pb, hpb⟩ : ∃ pb, X.heap.size = pb := ⟨_, rfl⟩
        have kps : Hid (s + 1 < pb) := by have := blk_lt kbR.out; show _ < _; omega
        rw [hpb] at bP ⊢
        have kbP := hid bP
        have kO := hid (kO.out.trans qa)
        have kb1 := hid ((qa.block _ (blk_lt kb1.out) (fun h => h)).trans kb1.out)
        have kbR := hid ((qa.block _ (blk_lt kbR.out) (fun h => h)).trans kbR.out)
        clear bP hpb
        clear qa
        generalize X.alloc (.cells #[.slice none 0 0, .int .i64 0, .slice none 0 0] 31) = X2 at *
        refine wpAnyH_ready (rs := [1]) (by kernel_rfl) (by simp) ?_
        refine AllReadyH.cons (o := _) rfl (fun K hK => ?_) AllReadyH.nil
        simp only [List.getElem_toArray, List.getElem_cons_zero, List.getElem_cons_succ]
        go_simp
        refine (kBe.out X2 kO.out).mono ?_
        rintro e Y ⟨cv, rfl, hzv, oB⟩
        obtain ⟨ca, cc, hv, -⟩ := id hzv
        subst hv
        refine hK.out _ _ (⟨oB.cell hHeld.1, oB.cell hHeld.2⟩) (fun hHeld2 => ?_)
        clear hHeld hK
        have hHeld := hHeld2
        clear hHeld2
        try simp only [Act.put, List.setIfInBounds_toArray, List.set_cons_zero, List.set_cons_succ]
        have kz := hid (hzv.up kO.out.size)
        have kO := hid (kO.out.trans oB)
        have kb1 := hid ((oB.block _ (blk_lt kb1.out) (fun h => h)).trans kb1.out)
        have kbR := hid ((oB.block _ (blk_lt kbR.out) (fun h => h)).trans kbR.out)
        clear hzv
        have kbP := hid ((oB.block _ (blk_lt kbP.out) (fun h => h)).trans kbP.out)
        refine wpAnyH_ready (rs := [3]) (by kernel_rfl) (by simp) ?_
        refine AllReadyH.cons (o := _) rfl (fun K hK => ?_) AllReadyH.nil
        simp only [List.getElem_toArray, List.getElem_cons_zero, List.getElem_cons_succ]
        go_simp
        refine (kWw.out Y kO.out).mono ?_
        rintro e Z ⟨rfl, oW⟩
        refine hK.out _ _ (⟨oW.cell hHeld.1, oW.cell hHeld.2⟩) (fun hHeld2 => ?_)
        clear hHeld hK
        have hHeld := hHeld2
        clear hHeld2
        try simp only [Act.put, List.setIfInBounds_toArray, List.set_cons_zero, List.set_cons_succ]
        have kO := hid (kO.out.trans oW)
        have kb1 := hid ((oW.block _ (blk_lt kb1.out) (fun h => h)).trans kb1.out)
        have kbR := hid ((oW.block _ (blk_lt kbR.out) (fun h => h)).trans kbR.out)
        have kz := hid (kz.out.old oW)
        have kbP := hid ((oW.block _ (blk_lt kbP.out) (fun h => h)).trans kbP.out)
        clear oW
        refine' wpAnyH_take (i := 4) rfl (by kernel_rfl) (by kernel_rfl) (by kernel_rfl) (fun _ _ _ h => h) (Or.inl ⟨by rfl, ?_⟩) hHeld ?_
        rotate_left
        · intro W hSw
          obtain ⟨r1, r2⟩ := hSw
          simp only [List.getElem_toArray, List.getElem_cons_zero, List.getElem_cons_succ]
          go_simp
          all_goals with_reducible rfl
        simp only [List.getElem_toArray, List.getElem_cons_zero, List.getElem_cons_succ, Act.put, List.setIfInBounds_toArray, List.set_cons_zero, List.set_cons_succ]
        have e0 := blk_cells (i := 0) kbP.out rfl
        have e1 := blk_fz kbP.out 0
        have b5 := heap_set (i := 0) (.slice ca c.length cc) kbP.out
        have e2 := blk_cells (i := 1) b5 rfl
        have e3 := blk_fz b5 1
        have b6 := heap_set (i := 1) (.int .i64 bz) b5
        have e4 := blk_cells (i := 2) b6 rfl
        have e5 := blk_fz b6 2
        have b7 := heap_set (i := 2) (.slice none 0 0) b6
        have kfP : Hid (Frm (fun q => q = pb) Z (((Z.setCell ⟨pb, 0, none⟩ (.slice ca c.length cc)).setCell ⟨pb, 1, none⟩ (.int .i64 bz)).setCell ⟨pb, 2, none⟩ (.slice none 0 0))) := Frm.trans (Frm.trans (frm_set Z pb 0 (.slice ca c.length cc)) (frm_set _ pb 1 (.int .i64 bz)) (fun _ _ e => e)) (frm_set _ pb 2 (.slice none 0 0)) (fun _ _ e => e)
        have kpe := hid b7
        have hps := kps.out
        clear b5 b6 b7
        refine wpAnyH_ready (rs := [6]) (by kernel_rfl) (by simp) ?_
        refine AllReadyH.cons (o := _) rfl (fun K hK => ?_) AllReadyH.nil
        simp only [List.getElem_toArray, List.getElem_cons_zero, List.getElem_cons_succ]
        go_simp
        refine hK.out _ _ ⟨frm_cell kfP.out hHeld.1 (by dsimp only; omega), frm_cell kfP.out hHeld.2 (by dsimp only; omega)⟩ (fun _ => ?_)
        try simp only [Act.put, List.setIfInBounds_toArray, List.set_cons_zero, List.set_cons_succ]
        refine wpAnyH_done (by kernel_rfl) ?_ _
        refine NoPanic.normal ?_
        clear e0 e1 e2 e3 e4 e5
        have kPK : Hid (PK w (((Z.setCell ⟨pb, 0, none⟩ (.slice ca c.length cc)).setCell ⟨pb, 1, none⟩ (.int .i64 bz)).setCell ⟨pb, 2, none⟩ (.slice none 0 0)) (m : Int) B bo cap f s pb ca cc c bz 0 (.slice none 0 0)) :=
          ⟨Frm.trans kO.out kfP.out (fun i hi e => by have := kss.out; omega), by have := kss.out; omega, (kfP.out.block _ (blk_lt kb1.out) (by omega)).trans kb1.out, (kfP.out.block _ (blk_lt kbR.out) (by omega)).trans kbR.out, kpe.out, hps, kz.out.frm5 kfP.out kbP.out (by decide), ⟨rfl, Or.inl ⟨rfl, rfl⟩⟩⟩
        go_wp2_with fail
        go_meet
        case rel => exact ⟨pb, ca, cc, rfl, kPK⟩
    case' rest =>
      obtain ⟨pb, ca, cc, rfl, hX0⟩ := hcut
    clear kb1 kbR ko2 kBe kWw x0 x1
    go_wp2_with fail
    go_loopw [6] (fun t6 wr => ∃ (i : Nat) (v : Value), i ≤ B.length ∧ t6 = .int .i64 (i : Int) ∧ Hid (PK w wr (m : Int) B bo cap f s pb ca cc c bz i v)) (fun t6 _ => B.length - (intOf t6).toNat)
    case atStart => exact ⟨0, _, Nat.zero_le _, rfl, hX0⟩
    case round =>
      clear hX0
      obtain ⟨i, v, hi, rfl, hX⟩ := hrel
      have x0 := blk_cells (i := 0) hX.out.x rfl
      have x1 := blk_cells (i := 1) hX.out.x rfl
      simp only [List.getElem_toArray, List.getElem_cons_zero, List.getElem_cons_succ] at x0 x1
      by_cases hlt : i < B.length
      · have hlt' : (i : Int) < (B.length : Int) := by omega
        have kWo := hid (fun W (o : Old w W) => rwo_any (m : Int) bo cap B (i : Int) W (kh.out.old o) (kV.out.old o) hl)
        rw [(kwo.out i hlt).1, (kwo.out i hlt).2] at kWo
        have hwb := best_45 (wo_ins (k := i) kw.out.ins) (set_lt kw.out.lt)
        rw [kf.out] at hwb
        have kpz : Hid (payZ B f c i = if 0 ≤ c.getD i (-1) then best (B.set i []) f - (bz - wonZ B c i) else 0) := by
          show _ = _
          unfold payZ
          rw [kbz.out]
        obtain ⟨wz, hwz⟩ : ∃ wz, best (B.set i []) f = wz := ⟨_, rfl⟩
        rw [hwz] at kWo hwb kpz
        clear hwz
        go_wp2_with fail
        refine (kWo.out wr hX.out.old).mono ?_
        rintro e w3 ⟨rfl, o3⟩
        have hX := hid (hX.out.olds o3)
        clear kWo x0 x1 o3
        go_wp2_with fail
        have hic : i < c.length := by have := khcl.out; omega
        have kcoin := hid (kw.out.coin hlt)
        have x0 := blk_cells (i := 0) hX.out.x rfl
        have x1 := blk_cells (i := 1) hX.out.x rfl
        have p0 := blk_cells (i := 0) hX.out.p rfl
        have p1 := blk_cells (i := 1) hX.out.p rfl
        simp only [List.getElem_toArray, List.getElem_cons_zero, List.getElem_cons_succ] at x0 x1 p0 p1
        have od : Old w3 w3.drew := (Old.refl w3).drewN 1
        refine wp_region_noPanic ?_
        refine wp_region_held_drew (S := fun W => W.cell? ⟨s, 0, none⟩ = some (.int .i64 (m : Int)) ∧ W.cell? ⟨s, 1, none⟩ = some (.slice bo B.length cap) ∧ W.cell? ⟨pb, 0, none⟩ = some (.slice ca c.length cc) ∧ W.cell? ⟨pb, 1, none⟩ = some (.int .i64 bz)) (by kernel_rfl) ⟨od.cell x0, od.cell x1, od.cell p0, od.cell p1⟩ (fun hHeld => ?_)
        have hX := hid (hX.out.olds od)
        clear od x0 x1 p0 p1
        generalize w3.drew = X at *
        refine' wpAnyH_take (i := 0) rfl (by kernel_rfl) (by kernel_rfl) (by kernel_rfl) (fun _ _ _ h => h) (Or.inl ⟨by rfl, ?_⟩) hHeld ?_
        rotate_left
        · intro W hSw
          obtain ⟨r1, r2, r3, r4⟩ := hSw
          simp only [List.getElem_toArray, List.getElem_cons_zero]
          go_simp
          all_goals with_reducible rfl
        simp only [List.getElem_toArray, List.getElem_cons_zero, Act.put, List.setIfInBounds_toArray, List.set_cons_zero, List.set_cons_succ]
        refine' wpAnyH_take (i := 1) rfl (by kernel_rfl) (by kernel_rfl) (by kernel_rfl) (fun _ _ _ h => h) (Or.inl ⟨by rfl, ?_⟩) hHeld ?_
        rotate_left
        · intro W hSw
          obtain ⟨r1, r2, r3, r4⟩ := hSw
          simp only [List.getElem_toArray, List.getElem_cons_zero, List.getElem_cons_succ]
          go_simp
          all_goals with_reducible rfl
        simp only [List.getElem_toArray, List.getElem_cons_zero, List.getElem_cons_succ, Act.put, List.setIfInBounds_toArray, List.set_cons_zero, List.set_cons_succ]
        refine' wpAnyH_take (i := 2) rfl (by kernel_rfl) (by kernel_rfl) (by kernel_rfl) (fun _ _ _ h => h) (Or.inl ⟨by rfl, ?_⟩) hHeld ?_
        rotate_left
        · intro W hSw
          obtain ⟨r1, r2, r3, r4⟩ := hSw
          simp only [List.getElem_toArray, List.getElem_cons_zero, List.getElem_cons_succ]
          go_simp
          all_goals with_reducible rfl
        simp only [List.getElem_toArray, List.getElem_cons_zero, List.getElem_cons_succ, Act.put, List.setIfInBounds_toArray, List.set_cons_zero, List.set_cons_succ]
        refine' wpAnyH_take (i := 3) rfl (by kernel_rfl) (by kernel_rfl) (by kernel_rfl) (fun _ _ _ h => h) (Or.inl ⟨by rfl, ?_⟩) hHeld ?_
        rotate_left
        · intro W hSw
          obtain ⟨r1, r2, r3, r4⟩ := hSw
          simp only [List.getElem_toArray, List.getElem_cons_zero, List.getElem_cons_succ]
          go_simp
          all_goals with_reducible rfl
        simp only [List.getElem_toArray, List.getElem_cons_zero, List.getElem_cons_succ, Act.put, List.setIfInBounds_toArray, List.set_cons_zero, List.set_cons_succ]
        refine' wpAnyH_take (i := 4) rfl (by kernel_rfl) (by kernel_rfl) (by kernel_rfl) (fun _ _ _ h => h) (Or.inl ⟨by rfl, ?_⟩) hHeld ?_
        rotate_left
        · intro W hSw
          obtain ⟨r1, r2, r3, r4⟩ := hSw
          simp only [List.getElem_toArray, List.getElem_cons_zero, List.getElem_cons_succ]
          go_simp
          all_goals with_reducible rfl
        simp only [List.getElem_toArray, List.getElem_cons_zero, List.getElem_cons_succ, Act.put, List.setIfInBounds_toArray, List.set_cons_zero, List.set_cons_succ]
        refine' wpAnyH_take (i := 5) rfl (by kernel_rfl) (by kernel_rfl) (by kernel_rfl) (fun _ _ _ h => h) (Or.inl ⟨by rfl, ?_⟩) hHeld ?_
        rotate_left
        · intro W hSw
          obtain ⟨r1, r2, r3, r4⟩ := hSw
          simp only [List.getElem_toArray, List.getElem_cons_zero, List.getElem_cons_succ]
          go_simp
          all_goals with_reducible rfl
        simp only [List.getElem_toArray, List.getElem_cons_zero, List.getElem_cons_succ, Act.put, List.setIfInBounds_toArray, List.set_cons_zero, List.set_cons_succ]
        refine' wpAnyH_take (i := 6) rfl (by kernel_rfl) (by kernel_rfl) (by kernel_rfl) (fun _ _ _ h => h) (Or.inl ⟨by rfl, ?_⟩) hHeld ?_
        rotate_left
        · intro W hSw
          obtain ⟨r1, r2, r3, r4⟩ := hSw
          simp only [List.getElem_toArray, List.getElem_cons_zero, List.getElem_cons_succ]
          go_simp
          all_goals with_reducible rfl
        simp only [List.getElem_toArray, List.getElem_cons_zero, List.getElem_cons_succ, Act.put, List.setIfInBounds_toArray, List.set_cons_zero, List.set_cons_succ]
        have kWn := hid (won_any (m : Int) bo ca cap cc B c i X (kh.out.old hX.out.old) hX.out.ch.nums kw.out hlt)
        have hcoin := kcoin.out
        obtain ⟨ww, hww⟩ : ∃ ww, wonZ B c i = ww := ⟨_, rfl⟩
        rw [hww] at kWn hcoin kpz
        clear hww kcoin
        refine wpAnyH_ready (rs := [7]) (by kernel_rfl) (by simp) ?_
        refine AllReadyH.cons (o := _) rfl (fun K hK => ?_) AllReadyH.nil
        simp only [List.getElem_toArray, List.getElem_cons_zero, List.getElem_cons_succ]
        go_simp
        refine kWn.out.mono ?_
        rintro e w5 ⟨rfl, o5⟩
        refine hK.out _ _ (⟨o5.cell hHeld.1, o5.cell hHeld.2.1, o5.cell hHeld.2.2.1, o5.cell hHeld.2.2.2⟩) (fun hHeld2 => ?_)
        clear hHeld hK
        have hHeld := hHeld2
        clear hHeld2
        try simp only [Act.put, List.setIfInBounds_toArray, List.set_cons_zero, List.set_cons_succ]
        refine' wpAnyH_take (i := 8) rfl (by kernel_rfl) (by kernel_rfl) (by kernel_rfl) (fun _ _ _ h => h) (Or.inl ⟨by rfl, ?_⟩) hHeld ?_
        rotate_left
        · intro W hSw
          obtain ⟨r1, r2, r3, r4⟩ := hSw
          simp only [List.getElem_toArray, List.getElem_cons_zero, List.getElem_cons_succ]
          go_simp
          all_goals with_reducible rfl
        simp only [List.getElem_toArray, List.getElem_cons_zero, List.getElem_cons_succ, Act.put, List.setIfInBounds_toArray, List.set_cons_zero, List.set_cons_succ]
        rw [wrap_i64s (bz - ww) (by omega)]
        refine' wpAnyH_take (i := 9) rfl (by kernel_rfl) (by kernel_rfl) (by kernel_rfl) (fun _ _ _ h => h) (Or.inl ⟨by rfl, ?_⟩) hHeld ?_
        rotate_left
        · intro W hSw
          obtain ⟨r1, r2, r3, r4⟩ := hSw
          simp only [List.getElem_toArray, List.getElem_cons_zero, List.getElem_cons_succ]
          go_simp
          all_goals with_reducible rfl
        simp only [List.getElem_toArray, List.getElem_cons_zero, List.getElem_cons_succ, Act.put, List.setIfInBounds_toArray, List.set_cons_zero, List.set_cons_succ]
        rw [wrap_i64s (wz - (bz - ww)) (by omega)]
        refine' wpAnyH_take (i := 10) rfl (by kernel_rfl) (by kernel_rfl) (by kernel_rfl) (fun _ _ _ h => h) (Or.inl ⟨by rfl, ?_⟩) hHeld ?_
        rotate_left
        · intro W hSw
          obtain ⟨r1, r2, r3, r4⟩ := hSw
          simp only [List.getElem_toArray, List.getElem_cons_zero, List.getElem_cons_succ]
          go_simp
          all_goals with_reducible rfl
        simp only [List.getElem_toArray, List.getElem_cons_zero, List.getElem_cons_succ, Act.put, List.setIfInBounds_toArray, List.set_cons_zero, List.set_cons_succ]
        refine wpAnyH_done (by kernel_rfl) ?_ _
        refine NoPanic.normal ?_
        have hX := hid (hX.out.olds o5)
        clear o5 hHeld kWn
        obtain ⟨cg, co, hca, k1⟩ := hX.out.ch.nums i hic
        subst hca
        have p0 := blk_cells (i := 0) hX.out.p rfl
        simp only [List.getElem_toArray, List.getElem_cons_zero] at p0
        have hgd : c.getD i (-1) = c[i] := by rw [List.getD_eq_getElem?_getD, List.getElem?_eq_getElem hic]; rfl
        rw [hgd] at kpz
        have hic' : (i : Int) < (c.length : Int) := by omega
        generalize c[i] = ci at *
        clear hgd
        by_cases hci : 0 ≤ ci
        · have hci' : ¬ ci < 0 := by omega
          have kpz2 : Hid (payZ B f c i = wz - (bz - ww)) := by show _ = _; rw [kpz.out, if_pos hci]
          obtain ⟨pz, hpz⟩ : ∃ pz, wz - (bz - ww) = pz := ⟨_, rfl⟩
          rw [hpz] at kpz2 ⊢
          clear hpz
          have q4 : Old w5 (w5.alloc (.cells #[.int .i64 pz] 2)) := (Old.refl w5).alloc _
          have hO4 : NumsC .i64 (w5.alloc (.cells #[.int .i64 pz] 2)) (some ⟨w5.heap.size, 0, none⟩) [pz] := nums_blk (L := [pz]) (heap_new w5 (.cells #[.int .i64 pz] 2))
          have kX4 := hid (hX.out.olds q4)
          have hrow : (w5.alloc (.cells #[.int .i64 pz] 2)).ownsRow w.heap.size 2 1 v (payT B f c i).length ((payT B f c i).map (Value.int .i64)) := by have := kX4.out.row; rw [payT_len]; exact this
          have hsz4 := kX4.out.old.size
          have c2 := blk_cells (i := 2) kX4.out.p rfl
          have c20 := blk_cells (i := 2) hX.out.p rfl
          simp only [List.getElem_toArray, List.getElem_cons_zero, List.getElem_cons_succ] at c2 c20
          obtain ⟨va, vc, hvf⟩ := own_formL hrow
          rw [hvf] at c2 c20
          have hpl : (payT B f c i).length = i := payT_len _ _ _ _
          have khpl := hid hpl
          have hbnd : (payT B f c i).length ≤ 32 := by omega
          clear q4 hpl
          go_wp2_with (at_builtin; refine wpAppN (by rfl) _ _ (by rfl) w.heap.size v (some ⟨w5.heap.size, 0, none⟩) 1 (payT B f c i) [pz] (by rw [hvf]; rfl) (by rfl) hrow hO4 (fun h => by cases h) (by simp; omega) (by omega) ?_)
          generalize w5.alloc (.cells #[.int .i64 pz] 2) = w4 at *
          intro v5 w6 ow5 gr5
          have ow6 : w6.ownsRow w.heap.size 2 1 v5 (i + 1) ((payT B f c (i + 1)).map (Value.int .i64)) := by
            rw [payT_succ, kpz2.out]
            have := ow5
            simpa [khpl.out, kss.out] using this
          have hf5 : Frm (fun q => v.ownBlock = some q) w4 w6 := Frm.grown (Frm.refl _ _) gr5 (fun q hq => Or.inr (by rw [hvf]; exact hq))
          obtain ⟨va5, vc5, rfl⟩ := own_formL ow6
          have kN := hid (kX4.out.next hf5 ow6)
          have hc5 := kX4.out.at hf5
          have d0 := blk_cells (i := 2) hc5 rfl
          have d1 := blk_fz hc5 2
          clear ow5 ow6 gr5 hf5 hc5 hrow hO4 c2 c20
          go_wp2_with fail
          go_roundw
          case rel => exact ⟨i + 1, _, by omega, by go_num, kN⟩
          case measure => simp [intOf]; omega
        · have hci' : ci < 0 := by omega
          have kpz2 : Hid (payZ B f c i = 0) := by show _ = _; rw [kpz.out, if_neg hci]
          have q4 : Old w5 (w5.alloc (.cells #[.int .i64 0] 2)) := (Old.refl w5).alloc _
          have hO4 : NumsC .i64 (w5.alloc (.cells #[.int .i64 0] 2)) (some ⟨w5.heap.size, 0, none⟩) [0] := nums_blk (L := [0]) (heap_new w5 (.cells #[.int .i64 0] 2))
          have kX4 := hid (hX.out.olds q4)
          have hrow : (w5.alloc (.cells #[.int .i64 0] 2)).ownsRow w.heap.size 2 1 v (payT B f c i).length ((payT B f c i).map (Value.int .i64)) := by have := kX4.out.row; rw [payT_len]; exact this
          have hsz4 := kX4.out.old.size
          have c2 := blk_cells (i := 2) kX4.out.p rfl
          have c20 := blk_cells (i := 2) hX.out.p rfl
          simp only [List.getElem_toArray, List.getElem_cons_zero, List.getElem_cons_succ] at c2 c20
          obtain ⟨va, vc, hvf⟩ := own_formL hrow
          rw [hvf] at c2 c20
          have hpl : (payT B f c i).length = i := payT_len _ _ _ _
          have khpl := hid hpl
          have hbnd : (payT B f c i).length ≤ 32 := by omega
          clear q4 hpl
          go_wp2_with (at_builtin; refine wpAppN (by rfl) _ _ (by rfl) w.heap.size v (some ⟨w5.heap.size, 0, none⟩) 1 (payT B f c i) [0] (by rw [hvf]; rfl) (by rfl) hrow hO4 (fun h => by cases h) (by simp; omega) (by omega) ?_)
          generalize w5.alloc (.cells #[.int .i64 0] 2) = w4 at *
          intro v5 w6 ow5 gr5
          have ow6 : w6.ownsRow w.heap.size 2 1 v5 (i + 1) ((payT B f c (i + 1)).map (Value.int .i64)) := by
            rw [payT_succ, kpz2.out]
            have := ow5
            simpa [khpl.out, kss.out] using this
          have hf5 : Frm (fun q => v.ownBlock = some q) w4 w6 := Frm.grown (Frm.refl _ _) gr5 (fun q hq => Or.inr (by rw [hvf]; exact hq))
          obtain ⟨va5, vc5, rfl⟩ := own_formL ow6
          have kN := hid (kX4.out.next hf5 ow6)
          have hc5 := kX4.out.at hf5
          have d0 := blk_cells (i := 2) hc5 rfl
          have d1 := blk_fz hc5 2
          clear ow5 ow6 gr5 hf5 hc5 hrow hO4 c2 c20
          go_wp2_with fail
          go_roundw
          case rel => exact ⟨i + 1, _, by omega, by go_num, kN⟩
          case measure => simp [intOf]; omega
      · obtain rfl : i = B.length := by omega
        have hlt' : ¬ (B.length : Int) < (B.length : Int) := by omega
        have hpay : payL B f c = payT B f c B.length := by unfold payL payT; rw [khcl.out]
        have kpay : Hid (NewL w.heap.size wr v (payL B f c)) := by
          rw [hpay]
          refine NewL.own ?_
          rw [payT_len]
          exact hX.out.row
        obtain ⟨va, vc, hvf⟩ := own_formL hX.out.row
        subst hvf
        have p0 := blk_cells (i := 0) hX.out.p rfl
        have p1 := blk_cells (i := 1) hX.out.p rfl
        have p2 := blk_cells (i := 2) hX.out.p rfl
        simp only [List.getElem_toArray, List.getElem_cons_zero, List.getElem_cons_succ] at p0 p1 p2
        clear hpay
        have e0 := blk_cells (i := 0) hX.out.r rfl
        have e1 := blk_fz hX.out.r 0
        have b5 := heap_set (i := 0) (.slice ca c.length cc) hX.out.r
        have e2 := blk_cells (i := 1) b5 rfl
        have e3 := blk_fz b5 1
        have b6 := heap_set (i := 1) (.int .i64 bz) b5
        have e4 := blk_cells (i := 2) b6 rfl
        have e5 := blk_fz b6 2
        have b7 := heap_set (i := 2) (.slice va B.length vc) b6
        have kfS : Hid (Frm (fun q => q = s + 1) wr (((wr.setCell ⟨s + 1, 0, none⟩ (.slice ca c.length cc)).setCell ⟨s + 1, 1, none⟩ (.int .i64 bz)).setCell ⟨s + 1, 2, none⟩ (.slice va B.length vc))) := Frm.trans (Frm.trans (frm_set wr (s + 1) 0 (.slice ca c.length cc)) (frm_set _ (s + 1) 1 (.int .i64 bz)) (fun _ _ e => e)) (frm_set _ (s + 1) 2 (.slice va B.length vc)) (fun _ _ e => e)
        have kbE := hid b7
        clear b5 b6 b7
        go_wp2_with fail
        clear e0 e1 e2 e3 e4 e5
        generalize ((wr.setCell ⟨s + 1, 0, none⟩ (.slice ca c.length cc)).setCell ⟨s + 1, 1, none⟩ (.int .i64 bz)).setCell ⟨s + 1, 2, none⟩ (.slice va B.length vc) = Z at *
        have q0 := blk_cells (v := .slice ca c.length cc) (i := 0) kbE.out rfl
        have q1 := blk_cells (v := .int .i64 bz) (i := 1) kbE.out rfl
        have q2 := blk_cells (v := .slice va B.length vc) (i := 2) kbE.out rfl
        refine bodyPost_ret (v := .tuple #[.agg #[.slice ca c.length cc, .int .i64 bz, .slice va B.length vc], .int .i64 0]) ?_ rfl ?_
        · simp [results, Tryd.f12, go_sem, q0, q1, q2]
        · obtain ⟨e1, e2, e3⟩ := kcos.out
          refine ⟨Frm.trans hX.out.old kfS.out (fun i hi e => by have := kss.out; omega), _, _, by rw [e1, kw.out.ins], ?_, ?_⟩
          · rw [e2]
            exact hX.out.ch.frm5 kfS.out hX.out.r (by decide)
          · rw [e3]
            exact kpay.out.frm5 kfS.out hX.out.r (by decide)
  · have hzb : (insZ gd B != 0) = true := by simpa using hz
    have kbad := hid (cos_bad hz)
    obtain ⟨zz, hzz⟩ : ∃ zz, insZ gd B = zz := ⟨_, rfl⟩
    have kzz := hid hzz
    rw [hzz] at hzb ⊢
    clear hzz hz
    have e0 := blk_cells (i := 0) kbR.out rfl
    have e1 := blk_fz kbR.out 0
    have b5 := heap_set (i := 0) (.slice none 0 0) kbR.out
    have e2 := blk_cells (i := 1) b5 rfl
    have e3 := blk_fz b5 1
    have b6 := heap_set (i := 1) (.int .i64 0) b5
    have e4 := blk_cells (i := 2) b6 rfl
    have e5 := blk_fz b6 2
    have b7 := heap_set (i := 2) (.slice none 0 0) b6
    have kfS : Hid (Frm (fun q => q = s + 1) w2 (((w2.setCell ⟨s + 1, 0, none⟩ (.slice none 0 0)).setCell ⟨s + 1, 1, none⟩ (.int .i64 0)).setCell ⟨s + 1, 2, none⟩ (.slice none 0 0))) := Frm.trans (Frm.trans (frm_set w2 (s + 1) 0 (.slice none 0 0)) (frm_set _ (s + 1) 1 (.int .i64 0)) (fun _ _ e => e)) (frm_set _ (s + 1) 2 (.slice none 0 0)) (fun _ _ e => e)
    have kbE := hid b7
    clear b5 b6 b7
    go_wp2_with fail
    clear e0 e1 e2 e3 e4 e5
    generalize ((w2.setCell ⟨s + 1, 0, none⟩ (.slice none 0 0)).setCell ⟨s + 1, 1, none⟩ (.int .i64 0)).setCell ⟨s + 1, 2, none⟩ (.slice none 0 0) = Z at *
    have q0 := blk_cells (v := .slice none 0 0) (i := 0) kbE.out rfl
    have q1 := blk_cells (v := .int .i64 0) (i := 1) kbE.out rfl
    have q2 := blk_cells (v := .slice none 0 0) (i := 2) kbE.out rfl
    refine bodyPost_ret (v := .tuple #[.agg #[.slice none 0 0, .int .i64 0, .slice none 0 0], .int .i64 zz]) ?_ rfl ?_
    · simp [results, Tryd.f12, go_sem, q0, q1, q2]
    · obtain ⟨e1, e2, e3⟩ := kbad.out
      refine ⟨Frm.trans ko2.out kfS.out (fun i hi e => by have := kss.out; omega), _, _, by rw [e1, kzz.out], ?_, ?_⟩
      · rw [e2]
        exact ⟨none, 0, rfl, .inl ⟨rfl, rfl⟩⟩
      · rw [e3]
        exact NewL.nil _ _
end Go.Proofs.YtidocjgcckcooaaDoor
