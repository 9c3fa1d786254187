/- A set's text, walked. -/
import Derived.Test.YtgbdnlpdicmaaaaDoorG7
import Derived.Test.YtgbdnlpdicmaaaaDoorShelf
import Derived.Deep.AppendLies
namespace Go.Proofs.YtgbdnlpdicmaaaaDoor
open Go.RowKit Go.Lib Go.Shelf
attribute [local go_sem] Oper.semAt_some

/-- A set's text. -/
def textL (s : Nat) : List UInt8 := if s = 0 then [45] else Lib.join ((goodsL s).map Lib.decDigits) [32]

def strB (g : Nat) : ByteArray := ⟨(Lib.decDigits g).toArray⟩
def strsG (N : List Nat) : List Value := N.map (fun n => Value.string (strB n))

theorem info9 : (Tryd.prog.info? 9).map (fun i => (i.zero, i.size, i.bytes)) = some (some (.string .empty), 1, 16) := by kernel_rfl

theorem join_len (L : List Nat) (h : ∀ g ∈ L, g < 100) : (Lib.join (L.map Lib.decDigits) [32]).length ≤ 3 * L.length := by
  have hd : ∀ g, g < 100 → (Lib.decDigits g).length ≤ 2 := by
    intro g hg
    rw [Lib.decDigits]
    split
    · simp
    · rw [List.length_append, Lib.decDigits, dif_pos (by omega)]
      simp
  unfold Lib.join
  induction L with
  | nil => simp
  | cons a r ih =>
    have h1 := hd a (h a (by simp))
    have h2 := ih (fun g hg => h g (by simp [hg]))
    cases r with
    | nil => simp; omega
    | cons b t =>
      rw [List.map_cons, List.map_cons, List.intercalate_cons_cons, List.length_append, List.length_append]
      rw [List.map_cons] at h2
      simp only [List.length_cons, List.length_nil] at h2 ⊢
      omega

theorem strs_form {w : World} {B : Nat} {v : Value} {N : List Nat} (h : w.ownsRow B 9 1 v N.length (strsG N)) : (N = [] ∧ v = .slice none 0 0) ∨ ∃ g cap cur, v = .slice (some ⟨g, 0, none⟩) N.length cap ∧ B ≤ g ∧ N.length ≤ cap ∧ w.heap[g]? = some (.cells cur 9 (0, 0)) ∧ ∀ i (h : i < N.length), w.cell? ⟨g, i, none⟩ = some (.string (strB N[i])) := by
  rcases h.2 with ⟨rfl, h0⟩ | ⟨g, cap, cur, rfl, h3, h4, h5, h6, h7, h8⟩
  · exact Or.inl ⟨List.eq_nil_of_length_eq_zero h0, rfl⟩
  · refine Or.inr ⟨g, cap, cur, rfl, h3, by omega, h4, fun i hi => blk_cells h4 ?_⟩
    have h9 : (cur.toList.take (N.length * 1))[i]? = (strsG N)[i]? := by rw [h8]
    rw [List.getElem?_take_of_lt (by omega)] at h9
    simpa [strsG, hi] using h9

/-- While words come. -/
def TxI (X0 : World) (s : Nat) (p : List (Fin 32)) (W : World) : Prop := ∃ v, Boxed W s 83 v ∧ W.ownsRow X0.heap.size 9 1 v (p.map Fin.val).length (strsG (p.map Fin.val)) ∧ Frm (fun k => k = s) X0 W

theorem TxI.own {X0 X Y : World} {s : Nat} {p : List (Fin 32)} {row : Option Nat} (h : TxI X0 s p X) (hg : X.grownBy Y row) (hr : ∀ r, row = some r → X0.heap.size ≤ r ∧ ∃ o : Obj, X.heap[r]? = some o ∧ o.isCells = false) : TxI X0 s p Y := by
  obtain ⟨v, h1, h2, h3⟩ := h
  refine ⟨v, boxed_own _ _ (fun _ : Unit => _) () X Y row h1 hg (fun r e => (hr r e).2), owns_kept h2 (fun k hk => ?_), Frm.grown h3 hg (fun k e => Or.inl (hr k e).1)⟩
  obtain ⟨cur, hc⟩ := owns_block h2 hk
  refine hg.block k (blk_lt hc) (fun e => ?_)
  obtain ⟨o, h4, h5⟩ := (hr k e.symm).2
  rw [hc] at h4
  cases h4
  cases h5


set_option maxRecDepth 100000 in
set_option maxHeartbeats 4000000 in
theorem text_any (x : Nat) (hx : x < 4294967296) (w : World) (hT : Tabs w) :
    Calls Tryd.prog 27 #[.int .u32 (x : Int)] w fun e w' => e = .returned (.string ⟨(textL x).toArray⟩) ∧ Old w w' := by
  by_cases h0 : x = 0
  · subst h0
    go_enter Tryd.func27, Tryd.ntmps27
    go_wp2_with fail
    go_ret
    exact ⟨rfl, Old.refl w⟩
  · obtain ⟨i9, hi9, hz0, hz1, hz2⟩ := info_parts info9
    have hb0 : ((x : Int) == 0) = false := by simp; omega
    have kE := hid (each_any x (w.alloc (.cells #[.slice none 0 0] 83)))
    have o1 : Old w (w.alloc (.cells #[.slice none 0 0] 83)) := (Old.refl w).alloc _
    have bx1 := Boxed.new w 83 (.slice none 0 0)
    have hz1' : (w.alloc (.cells #[.slice none 0 0] 83)).heap.size = w.heap.size + 1 := alloc_size ..
    refine (callsIn_wide (n := 5)).1 ?_
    refine callsIn_of_wp_marks Tryd.func27 rfl trivial ?_ rfl
    simp only [Tryd.ntmps27, List.size_toArray, List.length_cons, List.length_nil, Nat.reduceAdd, Nat.reduceSub, Array.replicate_succ, Array.replicate_zero, List.push_toArray, List.append_toArray, List.nil_append, List.cons_append]
    gi_wp2_with fail
    refine ⟨trivial, ?_⟩
    refine (callsIn_wide.2 kE.out).mono ?_
    rintro e w2 ⟨rfl, e2⟩
    rw [e2]
    clear e2 w2 kE
    generalize w.alloc (.cells #[.slice none 0 0] 83) = w1 at *
    have oX : Old w1 (w1.alloc (.cells #[.int .u32 (x : Int)] 25)) := (Old.refl w1).alloc _
    have cB := new_cell w1 #[.int .u32 (x : Int)] 25 0 _ rfl
    have hX0 : (w1.alloc (.cells #[.int .u32 (x : Int)] 25)).heap.size = w1.heap.size + 1 := alloc_size ..
    have x0 := boxed_olds bx1 oX
    have xo := hid (o1.trans oX)
    have xT := (hT.old xo.out).tz
    generalize w1.alloc (.cells #[.int .u32 (x : Int)] 25) = X0 at *
    rw [hz1'] at cB hX0 ⊢
    clear oX bx1 o1 hz1'
    obtain ⟨s, hs⟩ : ∃ s, w.heap.size = s := ⟨_, rfl⟩
    have ksz := hid hs
    have htab : 0 < s := by rw [← hs]; exact block_lt_tab hT
    rw [hs] at cB hX0 x0 ⊢
    clear hs hT
    gi_wp2_with fail
    refine wpIn_rangeFunc_ownG rfl (by omega) (gf := 45) (lb := #[.pointer (some ⟨s + 1, 0, none⟩)]) rfl trivial (enters_of Tryd.func45 (by kernel_rfl) rfl)
      (each_stops 4 (by omega) (s + 1) (fun k => s ≤ k) (by omega) x hx X0 cB xT) (fun h k => Frm.trans h k (fun _ _ h => h)) (fun W l o o' hl h _ _ => Frm.grown (Frm.refl _ W) (grownBy_putObj' W l o') (fun k e => by cases e; right; omega)) (Below.refl _ _) (fun _ => rfl)
      (fun p W => TxI X0 s p W)
      (fun _ _ _ => False)
      (fun p X Y row h hg hr => h.own hg hr)
      (fun _ _ _ _ _ h _ _ => h)
      ⟨_, x0, ⟨rfl, Or.inl ⟨rfl, rfl⟩⟩, Frm.refl _ _⟩
      (fun y => { tmps := #[Value.int .u32 (x : Int), undef, Value.string ⟨#[]⟩, Value.pointer (some ⟨s, 0, none⟩), Value.int .i64 (y.val : Int), Value.int .u32 (x : Int), Value.bool false, Value.int .u32 (x : Int), Value.func (.func 45) #[] #[.pointer (some ⟨s + 1, 0, none⟩)], Value.int .i64 (y.val : Int), undef, undef, undef, undef, undef, undef, undef], defers := [] }) ?assign ?body ?done ?stop
    case assign =>
      intro l y W K hK
      gi_wp2
      exact hK
    case body =>
      rintro l pre y Y ⟨v, hbx, hrow, hfr⟩ hlen
      have hd2 : 1 ≤ 5 - 1 - 1 := by omega
      have hy := y.isLt
      have kI := hid (Tryd.strconv_Itoa_small y.val (by omega))
      obtain ⟨sy, hsy⟩ : ∃ sy : ByteArray, (⟨(Lib.decDigits y.val).toArray⟩ : ByteArray) = sy := ⟨_, rfl⟩
      have ksy : Hid (strB y.val = sy) := hsy
      rw [hsy] at kI
      clear hsy
      have hgl := goodsL_len x
      obtain ⟨a0, c0, rfl⟩ : ∃ a0 c0, v = .slice a0 (pre.map Fin.val).length c0 := by
        rcases strs_form hrow with ⟨e1, rfl⟩ | ⟨g, cap, cur, rfl, _⟩
        · exact ⟨none, 0, by rw [e1]; rfl⟩
        · exact ⟨_, _, rfl⟩
      have dY : Hid (Old Y Y.drew) := (Old.refl Y).drewN 1
      have kfin : Hid (∀ g1 cg1 W3, Frm (fun q => (Value.slice a0 (pre.map Fin.val).length c0).ownBlock = some q) Y.drew W3 → Boxed W3 s 83 (.slice a0 (pre.map Fin.val).length c0) → W3.ownsRow X0.heap.size 9 1 (.slice (some ⟨g1, 0, none⟩) ((pre.map Fin.val).length + 1) cg1) ((pre.map Fin.val).length + 1) (strsG (pre.map Fin.val) ++ [.string sy]) → (((Value.slice a0 (pre.map Fin.val).length c0).ownBlock = some g1) ∨ g1 = Y.drew.heap.size + 1) →
          KeepsFrom X0.heap.size Y (W3.setCell ⟨s, 0, none⟩ (.slice (some ⟨g1, 0, none⟩) ((pre.map Fin.val).length + 1) cg1)) ∧ Frm (fun k => s ≤ k) Y (W3.setCell ⟨s, 0, none⟩ (.slice (some ⟨g1, 0, none⟩) ((pre.map Fin.val).length + 1) cg1)) ∧ TxI X0 s (pre ++ [y]) (W3.setCell ⟨s, 0, none⟩ (.slice (some ⟨g1, 0, none⟩) ((pre.map Fin.val).length + 1) cg1))) := by
        intro g1 cg1 W3 f3 b3 ow3 hat
        have ho : ∀ q, (Value.slice a0 (pre.map Fin.val).length c0).ownBlock = some q → X0.heap.size ≤ q ∧ ∃ cur, Y.heap[q]? = some (.cells cur 9 (0, 0)) := fun q hq => ⟨(hrow.lt q hq).1, owns_block hrow hq⟩
        have fY : Frm (fun q => (Value.slice a0 (pre.map Fin.val).length c0).ownBlock = some q) Y W3 := Frm.trans (Frm.mono dY.out (fun _ _ h => h.elim)) f3 (fun _ _ h => h)
        have fs := frm_set W3 s 0 (.slice (some ⟨g1, 0, none⟩) ((pre.map Fin.val).length + 1) cg1)
        have hYs := hfr.size
        have hg1 : X0.heap.size ≤ g1 := by
          rcases hat with h | h
          · exact (ho _ h).1
          · have := dY.out.size; rw [h]; exact Nat.le_succ_of_le (Nat.le_trans hYs this)
        refine ⟨⟨Nat.le_trans fY.size fs.size, fun k o hk hko hc => ?_⟩, Frm.trans (Frm.mono fY (fun q _ hq => by have := (ho q hq).1; omega)) (Frm.mono fs (fun q _ e => by omega)) (fun _ _ h => h), ⟨_, Boxed.set _ b3, ?_, ?_⟩⟩
        · have hkl := (Array.getElem?_eq_some_iff.1 hko).1
          rw [fs.block k (Nat.lt_of_lt_of_le hkl fY.size) (by omega), fY.block k hkl (fun hq => by
            obtain ⟨cur, hcur⟩ := (ho k hq).2
            rw [hko] at hcur
            cases hcur
            cases hc)]
          exact hko
        · have e1 : (pre ++ [y]).map Fin.val = pre.map Fin.val ++ [y.val] := by simp
          have e2 : strsG (pre.map Fin.val ++ [y.val]) = strsG (pre.map Fin.val) ++ [.string sy] := by simp [strsG, ksy.out]
          rw [e1, List.length_append, e2]
          refine owns_kept ow3 (fun k hk => ?_)
          have hkg : k = g1 := by simpa [Value.ownBlock] using hk.symm
          obtain ⟨cur, hcur⟩ := owns_block ow3 hk
          exact fs.block k (blk_lt hcur) (by omega)
        · exact Frm.trans (Frm.mono (Frm.trans hfr fY (S := fun k => k = s) (fun i hi hq => by have := (ho i hq).1; omega)) (fun _ _ h => h)) fs (fun _ _ h => h)
      have kown : Hid (∀ q, (Value.slice a0 (pre.map Fin.val).length c0).ownBlock = some q → X0.heap.size ≤ q) := fun q hq => (hrow.lt q hq).1
      have hpl : (pre.map Fin.val).length = pre.length := by simp
      have hn0 : (pre.map Fin.val).length < 32 := by omega
      have hYs := hfr.size
      have kbx := hid (boxed_olds hbx dY.out)
      have krow := hid ((owns_kept hrow (w' := Y.drew) (fun k hk => by
        obtain ⟨cur, hcur⟩ := owns_block hrow hk
        exact dY.out.block k (blk_lt hcur) (fun h => h))).alloc (.cells #[.string sy] 9))
      have dbx := kbx.out.cell
      have hY1 := dY.out.size
      have hY1' : X0.heap.size ≤ Y.drew.heap.size := Nat.le_trans hYs hY1
      clear hrow hbx hfr x0 xT cB dY hpl
      generalize strsG (pre.map Fin.val) = vs at *
      generalize (pre.map Fin.val).length = n0 at *
      try dsimp only
      gi_wp2_with fail
      refine region_round (S := fun _ => True) (by kernel_rfl) (by kernel_rfl) trivial (fun hHeld => ?_)
      generalize Y.drew = Y1 at *
      clear hYs hY1
      refine' wpAnyH_take (i := 1) rfl (by kernel_rfl) (by kernel_rfl) (by kernel_rfl) (fun _ _ _ h => h) (Or.inl ⟨by rfl, ?_⟩) hHeld ?_
      rotate_left
      · intro W _
        simp only [List.getElem_toArray, List.getElem_cons_zero, List.getElem_cons_succ]
        go_simp
        all_goals with_reducible rfl
      simp only [List.getElem_toArray, List.getElem_cons_zero, List.getElem_cons_succ, Act.put, List.setIfInBounds_toArray, List.set_cons_zero, List.set_cons_succ]
      refine wpAnyH_ready (rs := [0, 2]) (by kernel_rfl) (by simp) ?_
      refine AllReadyH.cons (o := _) rfl (fun K hK => ?_) (AllReadyH.cons (o := _) rfl (fun K hK => ?_) AllReadyH.nil)
      · simp only [List.getElem_toArray, List.getElem_cons_zero]
        go_simp
        refine hK.out _ _ trivial (fun _ => ?_)
        clear hK K
        try simp only [Act.put, List.setIfInBounds_toArray, List.set_cons_zero, List.set_cons_succ]
        refine wpAnyH_ready (rs := [2]) (by kernel_rfl) (by simp) ?_
        refine AllReadyH.cons (o := _) rfl (fun K hK => ?_) AllReadyH.nil
        simp only [List.getElem_toArray, List.getElem_cons_zero, List.getElem_cons_succ]
        go_simp
        refine (kI.out _).mono ?_
        rintro e w2 ⟨rfl, e2⟩
        rw [e2]
        clear e2 w2
        refine hK.out _ _ trivial (fun _ => ?_)
        clear hK K
        try simp only [Act.put, List.setIfInBounds_toArray, List.set_cons_zero, List.set_cons_succ]
        refine wpAnyH_ready (rs := [3]) (by kernel_rfl) (by simp) ?_
        refine AllReadyH.cons (o := _) rfl (fun K hK => ?_) AllReadyH.nil
        simp only [List.getElem_toArray, List.getElem_cons_zero, List.getElem_cons_succ]
        go_simp
        refine hK.out _ _ trivial (fun _ => ?_)
        clear hK K
        try simp only [Act.put, List.setIfInBounds_toArray, List.set_cons_zero, List.set_cons_succ]
        refine wpAnyH_ready (rs := [4]) (by kernel_rfl) (by simp) ?_
        refine AllReadyH.cons (o := _) rfl (fun K hK => ?_) AllReadyH.nil
        refine step_append_lies _ (by rfl) _ _ _ (by rfl) X0.heap.size 9 i9 (.string .empty) 1 16 Tryd.underlying83 hi9 hz0 hz1 hz2 rfl (by decide) _ _ _ (by rfl) krow.out ⟨Y1.heap.size, 0, none⟩ 1 1 [.string sy] (by rfl) (by rfl) (World.news_of_block (cs := #[.string sy]) (t := 9) (fr := (0, 0)) (heap_new Y1 _)) (by simp [Value.oneCell']) (by omega) (by unfold maxLen; omega) (by omega) (by rw [alloc_size]; omega) (Y1.heap.size + 1) (by simp) ?_
        intro g1 cg1 W3 hown3 hgrow3 hat3 hlt3
        have f3 : Frm (fun q => (Value.slice a0 n0 c0).ownBlock = some q) Y1 W3 := Frm.trans ((Frm.refl _ Y1).alloc _) (⟨hgrow3.os, hgrow3.tape, hgrow3.output, hgrow3.size, fun q hq hn => hgrow3.block q hq (fun e => hn e.symm)⟩ : Frm (fun q => (Value.slice a0 n0 c0).ownBlock = some q) _ W3) (fun _ _ h => h)
        have b3 := boxed_frm kbx.out f3 (fun e => by have := kown.out _ e; omega)
        have d3 := b3.cell
        have q3 := b3.frozen
        refine hK.out _ _ trivial (fun _ => ?_)
        clear hK K
        try simp only [Act.put, List.setIfInBounds_toArray]
        have ko3 := hid hown3
        have kb3 := hid b3
        have kf3 := hid f3
        have kat := hid hat3
        clear hown3 hgrow3 hat3 f3 b3
        refine wpAnyH_ready (rs := [5]) (by kernel_rfl) (by simp) ?_
        refine AllReadyH.cons (o := _) rfl (fun K hK => ?_) AllReadyH.nil
        simp only [List.getElem_toArray, List.getElem_cons_zero, List.getElem_cons_succ]
        go_simp
        refine hK.out _ _ trivial (fun _ => ?_)
        clear hK K
        try simp only [Act.put, List.setIfInBounds_toArray, List.set_cons_zero, List.set_cons_succ]
        refine wpAnyH_done (by kernel_rfl) ?_ _
        refine OnlyN.normal ?_
        gi_wp2
        exact kfin.out g1 cg1 W3 kf3.out kb3.out ko3.out kat.out
      · simp only [List.getElem_toArray, List.getElem_cons_zero, List.getElem_cons_succ]
        go_simp
        refine (kI.out _).mono ?_
        rintro e w2 ⟨rfl, e2⟩
        rw [e2]
        clear e2 w2
        refine hK.out _ _ trivial (fun _ => ?_)
        clear hK K
        try simp only [Act.put, List.setIfInBounds_toArray, List.set_cons_zero, List.set_cons_succ]
        refine wpAnyH_ready (rs := [0, 3]) (by kernel_rfl) (by simp) ?_
        refine AllReadyH.cons (o := _) rfl (fun K hK => ?_) (AllReadyH.cons (o := _) rfl (fun K hK => ?_) AllReadyH.nil)
        · simp only [List.getElem_toArray, List.getElem_cons_zero]
          go_simp
          refine hK.out _ _ trivial (fun _ => ?_)
          clear hK K
          try simp only [Act.put, List.setIfInBounds_toArray, List.set_cons_zero, List.set_cons_succ]
          refine wpAnyH_ready (rs := [3]) (by kernel_rfl) (by simp) ?_
          refine AllReadyH.cons (o := _) rfl (fun K hK => ?_) AllReadyH.nil
          simp only [List.getElem_toArray, List.getElem_cons_zero, List.getElem_cons_succ]
          go_simp
          refine hK.out _ _ trivial (fun _ => ?_)
          clear hK K
          try simp only [Act.put, List.setIfInBounds_toArray, List.set_cons_zero, List.set_cons_succ]
          refine wpAnyH_ready (rs := [4]) (by kernel_rfl) (by simp) ?_
          refine AllReadyH.cons (o := _) rfl (fun K hK => ?_) AllReadyH.nil
          refine step_append_lies _ (by rfl) _ _ _ (by rfl) X0.heap.size 9 i9 (.string .empty) 1 16 Tryd.underlying83 hi9 hz0 hz1 hz2 rfl (by decide) _ _ _ (by rfl) krow.out ⟨Y1.heap.size, 0, none⟩ 1 1 [.string sy] (by rfl) (by rfl) (World.news_of_block (cs := #[.string sy]) (t := 9) (fr := (0, 0)) (heap_new Y1 _)) (by simp [Value.oneCell']) (by omega) (by unfold maxLen; omega) (by omega) (by rw [alloc_size]; omega) (Y1.heap.size + 1) (by simp) ?_
          intro g1 cg1 W3 hown3 hgrow3 hat3 hlt3
          have f3 : Frm (fun q => (Value.slice a0 n0 c0).ownBlock = some q) Y1 W3 := Frm.trans ((Frm.refl _ Y1).alloc _) (⟨hgrow3.os, hgrow3.tape, hgrow3.output, hgrow3.size, fun q hq hn => hgrow3.block q hq (fun e => hn e.symm)⟩ : Frm (fun q => (Value.slice a0 n0 c0).ownBlock = some q) _ W3) (fun _ _ h => h)
          have b3 := boxed_frm kbx.out f3 (fun e => by have := kown.out _ e; omega)
          have d3 := b3.cell
          have q3 := b3.frozen
          refine hK.out _ _ trivial (fun _ => ?_)
          clear hK K
          try simp only [Act.put, List.setIfInBounds_toArray]
          have ko3 := hid hown3
          have kb3 := hid b3
          have kf3 := hid f3
          have kat := hid hat3
          clear hown3 hgrow3 hat3 f3 b3
          refine wpAnyH_ready (rs := [5]) (by kernel_rfl) (by simp) ?_
          refine AllReadyH.cons (o := _) rfl (fun K hK => ?_) AllReadyH.nil
          simp only [List.getElem_toArray, List.getElem_cons_zero, List.getElem_cons_succ]
          go_simp
          refine hK.out _ _ trivial (fun _ => ?_)
          clear hK K
          try simp only [Act.put, List.setIfInBounds_toArray, List.set_cons_zero, List.set_cons_succ]
          refine wpAnyH_done (by kernel_rfl) ?_ _
          refine OnlyN.normal ?_
          gi_wp2
          exact kfin.out g1 cg1 W3 kf3.out kb3.out ko3.out kat.out
        · have dbx2 := ((Old.refl Y1).alloc (.cells #[.string sy] 9)).cell dbx
          simp only [List.getElem_toArray, List.getElem_cons_zero, List.getElem_cons_succ]
          go_simp
          refine hK.out _ _ trivial (fun _ => ?_)
          clear hK K
          try simp only [Act.put, List.setIfInBounds_toArray, List.set_cons_zero, List.set_cons_succ]
          refine wpAnyH_ready (rs := [0]) (by kernel_rfl) (by simp) ?_
          refine AllReadyH.cons (o := _) rfl (fun K hK => ?_) AllReadyH.nil
          simp only [List.getElem_toArray, List.getElem_cons_zero]
          go_simp
          refine hK.out _ _ trivial (fun _ => ?_)
          clear hK K
          try simp only [Act.put, List.setIfInBounds_toArray, List.set_cons_zero, List.set_cons_succ]
          refine wpAnyH_ready (rs := [4]) (by kernel_rfl) (by simp) ?_
          refine AllReadyH.cons (o := _) rfl (fun K hK => ?_) AllReadyH.nil
          refine step_append_lies _ (by rfl) _ _ _ (by rfl) X0.heap.size 9 i9 (.string .empty) 1 16 Tryd.underlying83 hi9 hz0 hz1 hz2 rfl (by decide) _ _ _ (by rfl) krow.out ⟨Y1.heap.size, 0, none⟩ 1 1 [.string sy] (by rfl) (by rfl) (World.news_of_block (cs := #[.string sy]) (t := 9) (fr := (0, 0)) (heap_new Y1 _)) (by simp [Value.oneCell']) (by omega) (by unfold maxLen; omega) (by omega) (by rw [alloc_size]; omega) (Y1.heap.size + 1) (by simp) ?_
          intro g1 cg1 W3 hown3 hgrow3 hat3 hlt3
          have f3 : Frm (fun q => (Value.slice a0 n0 c0).ownBlock = some q) Y1 W3 := Frm.trans ((Frm.refl _ Y1).alloc _) (⟨hgrow3.os, hgrow3.tape, hgrow3.output, hgrow3.size, fun q hq hn => hgrow3.block q hq (fun e => hn e.symm)⟩ : Frm (fun q => (Value.slice a0 n0 c0).ownBlock = some q) _ W3) (fun _ _ h => h)
          have b3 := boxed_frm kbx.out f3 (fun e => by have := kown.out _ e; omega)
          have d3 := b3.cell
          have q3 := b3.frozen
          refine hK.out _ _ trivial (fun _ => ?_)
          clear hK K
          try simp only [Act.put, List.setIfInBounds_toArray]
          have ko3 := hid hown3
          have kb3 := hid b3
          have kf3 := hid f3
          have kat := hid hat3
          clear hown3 hgrow3 hat3 f3 b3
          refine wpAnyH_ready (rs := [5]) (by kernel_rfl) (by simp) ?_
          refine AllReadyH.cons (o := _) rfl (fun K hK => ?_) AllReadyH.nil
          simp only [List.getElem_toArray, List.getElem_cons_zero, List.getElem_cons_succ]
          go_simp
          refine hK.out _ _ trivial (fun _ => ?_)
          clear hK K
          try simp only [Act.put, List.setIfInBounds_toArray, List.set_cons_zero, List.set_cons_succ]
          refine wpAnyH_done (by kernel_rfl) ?_ _
          refine OnlyN.normal ?_
          gi_wp2
          exact kfin.out g1 cg1 W3 kf3.out kb3.out ko3.out kat.out
    case done =>
      rintro D ys Y hD hys ⟨v, hbx, hrow, hfr⟩ hK
      rw [hys] at hrow
      have hne : goodsL x ≠ [] := fun e => h0 (by
        apply eq_of_bits
        intro i
        rw [Nat.zero_testBit]
        cases h : x.testBit i
        · rfl
        · have : i ∈ goodsL x := mem_goodsL.2 ⟨bit_lt hx h, h⟩
          rw [e] at this
          cases this)
      rcases strs_form hrow with ⟨e1, _⟩ | ⟨g, cap, cur, rfl, hg, hcap, hgb, hcs⟩
      · exact absurd e1 hne
      · have hgl := goodsL_len x
        have hjl := join_len (goodsL x) (fun g hg => by have := goodsL_lt hg; omega)
        have hj := Tryd.strings_Join g 0 cap ((goodsL x).map strB) ⟨#[32]⟩ Y (fun j y hy => by
            rw [Nat.zero_add]
            obtain ⟨h1, h2⟩ := List.getElem?_eq_some_iff.1 hy
            rw [← h2, hcs j (by simpa using h1)]
            simp) (blk_lt hgb) (by simp; omega) (by simpa using hcap) (by
            rw [List.map_map, show ((fun x : ByteArray => x.data.toList) ∘ strB) = Lib.decDigits from funext fun n => by simp [strB]]
            show (Lib.join _ [32]).length ≤ _
            omega)
        rw [List.map_map, show ((fun x : ByteArray => x.data.toList) ∘ strB) = Lib.decDigits from funext fun n => by simp [strB], List.length_map] at hj
        have kj := hid hj
        have dbx := hbx.cell
        have kfr := hid hfr
        have hYs := hfr.size
        clear hj hrow hcs hbx hfr
        gi_wp2_with fail
        refine ⟨trivial, ?_⟩
        refine (callsIn_wide.2 kj.out).mono ?_
        rintro e w5 ⟨rfl, b5⟩
        have o5 := hid (Old.of_below b5)
        clear b5 kj
        gi_wp2
        have hKl := (Array.getElem?_eq_some_iff.1 hK).1
        have hK5 := (o5.out.block D hKl (fun h => h)).trans hK
        refine ⟨by simp, .inl ⟨_, _, rfl, run_takeDeferred hK5, ?_⟩⟩
        have hg5 := grownBy_putObj' w5 D (.deferred none)
        refine ⟨.string ⟨(textL x).toArray⟩, ?_, rfl, ?_⟩
        · simp [results, Tryd.f27, go_sem, textL, h0]
        · have hf : Frm (fun k => k = D) w5 (w5.putObj D (.deferred none)) := ⟨hg5.os, hg5.tape, hg5.output, hg5.size, fun k hk hne => hg5.block k hk (fun e => hne (by cases e; rfl))⟩
          have hsz := ksz.out
          exact Frm.trans (Frm.trans (Frm.trans xo.out kfr.out (fun i hi e => by omega)) o5.out (fun _ _ h => h)) hf (fun i hi e => by omega)
    case stop =>
      rintro D cd pre Y hD h hf _
      exact hf.elim
end Go.Proofs.YtgbdnlpdicmaaaaDoor
