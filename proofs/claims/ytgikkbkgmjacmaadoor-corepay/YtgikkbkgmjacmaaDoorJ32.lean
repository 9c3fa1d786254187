/- The document's bids, and who wins: walked. -/
import Derived.Test.YtgikkbkgmjacmaaDoorJ27
import Derived.Test.YtgikkbkgmjacmaaDoorJ31
namespace Go.Proofs.YtgikkbkgmjacmaaDoor
open Go.RowKit Go.Lib Go.Shelf
attribute [local go_sem] Oper.semAt_some

theorem info_b : (Tryd.prog.info? 4).map (fun i => (i.zero, i.bytes, i.size)) = some (some (.bool false), 1, 1) := by kernel_rfl
theorem parts_b : ∃ i, Tryd.prog.info? 4 = some i ∧ i.zero = some (.bool false) ∧ i.size = 1 ∧ i.bytes = 1 := by
  obtain ⟨i, hi, h2⟩ := Option.map_eq_some_iff.1 info_b
  simp only [Prod.mk.injEq] at h2
  exact ⟨i, hi, h2.1, h2.2.2, h2.2.1⟩
/-- A truth behind a row of such that one owns. -/
theorem wpAppB {ops : Array Oper} {rest : List Oper} {o : Oper} {a : Act} {Q : Exit → Act → World → Prop} {w : World} (hgd : o.guard = none) (s x : Operand) (ho : o.op = .call { callee := .builtin .append, args := #[s, x], argTypes := #[88, 88] })
    (B : Nat) (v : Value) (b : Nat) (L : List Bool) (l : Bool) (hs : a.eval s = v) (hx : a.eval x = .slice (some ⟨b, 0, none⟩) 1 1) (hown : w.ownsRow B 4 1 v L.length (L.map Value.bool)) (hO : w.cell? ⟨b, 0, none⟩ = some (.bool l)) (hl : L.length ≤ 1000) (hB : B ≤ w.heap.size)
    (h : ∀ v' w', w'.ownsRow B 4 1 v' (L ++ [l]).length ((L ++ [l]).map Value.bool) → w.grownBy w' v.ownBlock → wpList Tryd.prog ops Q rest (a.put o.dst v') w') : wpList Tryd.prog ops Q (o :: rest) a w := by
  obtain ⟨i0, hi0, hz0, hz1, hz2⟩ := parts_b
  refine wpList_append_own _ hgd s x 88 ho B 4 i0 _ 1 1 Tryd.underlying88 hi0 hz0 hz1 hz2 rfl (by omega) v L.length (L.map Value.bool) hs hown ⟨b, 0, none⟩ 1 1 [.bool l] hx rfl (fun j u hu => ?_) (fun u hu => ?_) (by unfold maxLen; omega) (by omega) hB (fun v' w' h8 h9 _ => h v' w' (by rw [List.length_append, List.map_append]; exact h8) h9)
  · match j, hu with
    | 0, hu =>
      obtain rfl : Value.bool l = u := by simpa using hu
      rw [Addr.add_lit]
      exact hO
  · obtain rfl : u = .bool l := by simpa using hu
    rfl

/-- Who wins, as truths. -/
def wiL (c : List Int) (n : Nat) : List Bool := (List.range n).map (fun i => decide (0 ≤ c.getD i (-1)))
theorem wiL_succ (c : List Int) (k : Nat) : wiL c (k + 1) = wiL c k ++ [decide (0 ≤ c.getD k (-1))] := by
  unfold wiL
  rw [List.range_succ, List.map_append]
  rfl
theorem wiL_len (c : List Int) (k : Nat) : (wiL c k).length = k := by simp [wiL]
def woL (B : Ins) (c : List Int) (k : Nat) : List Int := (List.range k).map (wonZ B c)
theorem woL_succ (B : Ins) (c : List Int) (k : Nat) : woL B c (k + 1) = woL B c k ++ [wonZ B c k] := by
  unfold woL
  rw [List.range_succ, List.map_append]
  rfl
theorem woL_len (B : Ins) (c : List Int) (k : Nat) : (woL B c k).length = k := by simp [woL]
theorem own_other {w w' : World} {B1 B2 : Nat} {e1 e2 : TypeId} {v1 v2 : Value} {n1 n2 : Nat} {x1 x2 : List Value} (h1 : w.ownsRow B1 e1 1 v1 n1 x1) (h2 : w.ownsRow B2 e2 1 v2 n2 x2) (hne : e1 ≠ e2) (hf : Frm (fun q => v2.ownBlock = some q) w w') : w'.ownsRow B1 e1 1 v1 n1 x1 :=
  owns_kept h1 (fun q hq => by
    obtain ⟨c1, hc1⟩ := owns_block h1 hq
    refine hf.block q (blk_lt hc1) (fun e => ?_)
    obtain ⟨c2, hc2⟩ := owns_block h2 e
    exact typ_ne hc1 hc2 hne rfl)

/-- What Bids answers. -/
def BidP (gd : Int) (B : Ins) (w : World) (e : Ending) (w' : World) : Prop := Old w w' ∧ ((insZ gd B = 0 ∧ ∃ v u, e = .returned (.tuple #[v, u, .int .i64 0]) ∧ w'.ownsRow w.heap.size 2 1 v (wonL B (cosC gd B)).length ((wonL B (cosC gd B)).map (Value.int .i64)) ∧ w'.ownsRow w.heap.size 4 1 u (wiL (cosC gd B) B.length).length ((wiL (cosC gd B) B.length).map Value.bool)) ∨ (insZ gd B ≠ 0 ∧ e = .returned (.tuple #[.slice none 0 0, .slice none 0 0, .int .i64 (insZ gd B)])))


set_option maxRecDepth 100000 in
set_option maxHeartbeats 8000000 in
theorem rbids_any (gd : Int) (bo : Option Addr) (cap : Nat) (B : Ins) (w : World) (h : InsC w bo B) (hl : B.length ≤ 9223372036854775807) :
    Calls Tryd.prog 44 #[.agg #[.int .i64 gd, .slice bo B.length cap]] w (BidP gd B w) := by
  have o1 : Old w (w.alloc (.cells #[.int .i64 gd, .slice bo B.length cap] 24)) := (Old.refl w).alloc _
  have b1 := heap_new w (.cells #[.int .i64 gd, .slice bo B.length cap] 24)
  have x0 := blk_cells (i := 0) b1 rfl
  have x1 := blk_cells (i := 1) b1 rfl
  simp only [List.getElem_toArray, List.getElem_cons_zero, List.getElem_cons_succ] at x0 x1
  have ko := hid o1
  have kh := hid h
  have klt := hid (ins_lt h)
  have kBe := hid (rbest_any gd bo cap B _ (h.old o1) hl)
  rw [ck_zero] at kBe
  clear o1 b1 h
  go_enter Tryd.func44, Tryd.ntmps44
  go_wp2_with fail
  generalize w.alloc (.cells #[.int .i64 gd, .slice bo B.length cap] 24) = w1 at *
  generalize hsz : w.heap.size = s at *
  have kss := hid hsz
  clear hsz
  refine kBe.out.mono ?_
  rintro e w2 ⟨v, rfl, hzv, o2⟩
  have hzv := hzv.up ko.out.size
  obtain ⟨ao, cc, hv, -⟩ := id hzv
  subst hv
  rw [show ptC gd B 0 (allZ gd).1 = cosC gd B from rfl] at hzv ⊢
  have q2 : Old w2 (w2.alloc (.cells #[.slice ao (cosC gd B).length cc, .int .i64 (frZ gd B 0 (allZ gd).1)] 52)) := (Old.refl w2).alloc _
  have y0 := new_cell w2 #[.slice ao (cosC gd B).length cc, .int .i64 (frZ gd B 0 (allZ gd).1)] 52 0 _ rfl
  simp only [List.getElem_toArray, List.getElem_cons_zero] at y0
  have oo := o2.trans q2
  have x1 := oo.cell x1
  have ko3 := hid (ko.out.trans oo)
  have kz := hid (hzv.old q2)
  clear oo q2 o2 hzv kBe x0
  by_cases hz : insZ gd B = 0
  · have kw : Hid (Win gd B (cosC gd B)) := win_of hz klt.out
    have khz := hid hz
    rw [hz]
    have hfew := kw.out.few
    have kcl : Hid ((cosC gd B).length = B.length) := kw.out.len
    have kBP : Hid (BidP gd B w = fun e w' => Old w w' ∧ ((insZ gd B = 0 ∧ ∃ v u, e = .returned (.tuple #[v, u, .int .i64 0]) ∧ w'.ownsRow w.heap.size 2 1 v (wonL B (cosC gd B)).length ((wonL B (cosC gd B)).map (Value.int .i64)) ∧ w'.ownsRow w.heap.size 4 1 u (wiL (cosC gd B) B.length).length ((wiL (cosC gd B) B.length).map Value.bool)) ∨ (insZ gd B ≠ 0 ∧ e = .returned (.tuple #[.slice none 0 0, .slice none 0 0, .int .i64 (insZ gd B)])))) := rfl
    generalize frZ gd B 0 (allZ gd).1 = bz at *
    generalize cosC gd B = c at *
    clear hz
    go_upto_region 4 with fail
    generalize w2.alloc (.cells #[.slice ao c.length cc, .int .i64 bz] 52) = w3 at *
    generalize w2.heap.size = bb at *
    have kx1 := hid x1
    have ky0 := hid y0
    clear x1 y0
    go_wp2_with fail
    go_loopw [7, 8, 9] (fun t7 t8 t9 wr => ∃ k : Nat, k ≤ B.length ∧ t9 = .int .i64 (k : Int) ∧ Hid (wr.ownsRow w3.heap.size 2 1 t7 (woL B c k).length ((woL B c k).map (Value.int .i64)) ∧ wr.ownsRow w3.heap.size 4 1 t8 (wiL c k).length ((wiL c k).map Value.bool) ∧ Old w3 wr)) (fun _ _ t9 _ => B.length - (intOf t9).toNat)
    case atStart => exact ⟨0, Nat.zero_le _, rfl, ⟨rfl, .inl ⟨rfl, rfl⟩⟩, ⟨rfl, .inl ⟨rfl, rfl⟩⟩, Old.refl _⟩
    case round =>
      obtain ⟨k, hk, rfl, hX⟩ := hrel
      have z1 := hX.out.2.2.cell kx1.out
      by_cases hlt : k < B.length
      · have hlt' : (k : Int) < (B.length : Int) := by omega
        have hkc : k < c.length := by have := kcl.out; omega
        have hkc' : (k : Int) < (c.length : Int) := by omega
        obtain ⟨cg, co, rfl, c1⟩ := kz.out.nums k hkc
        have zc := hX.out.2.2.cell c1
        have z0 := hX.out.2.2.cell ky0.out
        have hgc : c.getD k (-1) = c[k] := by rw [List.getD_eq_getElem?_getD, List.getElem?_eq_getElem hkc]; rfl
        have hgB : B.getD k [] = B[k] := by rw [List.getD_eq_getElem?_getD, List.getElem?_eq_getElem hlt]; rfl
        obtain ⟨g, o, a0, c0, rfl, i1, i2, -, -⟩ := kh.out k hlt
        have koX := hid (ko3.out.trans hX.out.2.2)
        have zr := koX.out.cell i1
        have hnum := kw.out.num _ (List.getElem_mem hkc)
        have hokc := kw.out.ok k hkc
        have kwd : Hid (wonZ B c k = if 0 ≤ c.getD k (-1) then ((B.getD k []).getD (c.getD k (-1)).toNat (0, 0)).2 else 0) := rfl
        rw [hgc, hgB] at kwd
        rw [hgB] at hokc
        obtain ⟨va, vn, vm, rfl⟩ : ∃ va vn vm, u7 = .slice va vn vm := by
          rcases hX.out.1.2 with ⟨h, -⟩ | ⟨g, cap, cur, h, -⟩
          · exact ⟨_, _, _, h⟩
          · exact ⟨_, _, _, h⟩
        obtain ⟨ua, un, um, rfl⟩ : ∃ va vn vm, u8 = .slice va vn vm := by
          rcases hX.out.2.1.2 with ⟨h, -⟩ | ⟨g, cap, cur, h, -⟩
          · exact ⟨_, _, _, h⟩
          · exact ⟨_, _, _, h⟩
        have kX := hid hX.out
        have ki2 := hid i2
        clear hX c1 i1 i2 hgB
        by_cases hx : 0 ≤ c[k]
        · obtain ⟨n, hn⟩ : ∃ n : Nat, c[k] = (n : Int) := ⟨c[k].toNat, by omega⟩
          have kwb : Hid (decide (0 ≤ c.getD k (-1)) = true) := by show _ = _; rw [hgc]; exact decide_eq_true hx
          have hnl := hokc hx
          rw [hn, Int.toNat_natCast] at hnl
          rw [if_pos hx, hn, Int.toNat_natCast, List.getD_eq_getElem?_getD, List.getElem?_eq_getElem hnl] at kwd
          have hnl' : (n : Int) < (B[k].length : Int) := by omega
          obtain ⟨og, oo, rfl, p1, p2⟩ := ki2.out n hnl
          have zo := koX.out.cell p2
          obtain ⟨xc, hxc⟩ : ∃ xc, (B[k][n]).2 = xc := ⟨_, rfl⟩
          have kwz : Hid (wonZ B c k = xc) := by show _ = _; rw [← hxc]; exact kwd.out
          rw [hxc] at zo
          rw [hn] at zc hnum
          have hn0 : ¬ (n : Int) < 0 := by omega
          have hn0' : (n : Int) ≥ 0 := by omega
          clear kwd
          clear p1 p2 hx hokc hn ki2 hgc hxc hnl
          generalize B[k].length = bl at *
          have q7 : Old wr (wr.alloc (.cells #[.int .i64 xc] 2)) := (Old.refl wr).alloc _
          have hO7 : NumsC .i64 (wr.alloc (.cells #[.int .i64 xc] 2)) (some ⟨wr.heap.size, 0, none⟩) [xc] := nums_blk (L := [xc]) (heap_new wr (.cells #[.int .i64 xc] 2))
          have hr7 := owns_kept kX.out.1 (fun q hq => q7.block q (kX.out.1.lt q hq).2 (fun h => h))
          have hu7 := owns_kept kX.out.2.1 (fun q hq => q7.block q (kX.out.2.1.lt q hq).2 (fun h => h))
          have ku7 := hid hu7
          have kr7 := hid hr7
          have kO7 := hid (kX.out.2.2.trans q7)
          have hsz7 := kO7.out.size
          have hl32 : (woL B c k).length ≤ 32 := by rw [woL_len]; omega
          clear q7 hu7
          go_wp2_with (at_builtin; refine wpAppL (by rfl) _ _ (by rfl) w3.heap.size (.slice va vn vm) (some ⟨wr.heap.size, 0, none⟩) 1 _ [xc] (by rfl) (by rfl) hr7 hO7 (fun h => by cases h) (by simp; omega) hsz7 ?_)
          generalize wr.alloc (.cells #[.int .i64 xc] 2) = w7 at *
          intro v8 w8 ow8 gr8
          have hf8 : Frm (fun q => (Value.slice va vn vm).ownBlock = some q) w7 w8 := Frm.grown (Frm.refl _ _) gr8 (fun q hq => Or.inr hq)
          have ku8 := hid (own_other ku7.out kr7.out (by decide) hf8)
          have kO8 : Hid (Old w3 w8) := Frm.trans kO7.out hf8 (fun q hq e => by have := (kr7.out.lt q e).1; omega)
          have kow8 : Hid (w8.ownsRow w3.heap.size 2 1 v8 (woL B c (k + 1)).length ((woL B c (k + 1)).map (Value.int .i64))) := by
            rw [woL_succ, List.length_append, List.map_append, kwz.out]
            exact ow8
          have q9 : Old w8 (w8.alloc (.cells #[.bool true] 4)) := (Old.refl w8).alloc _
          have hO9 := blk_cell (heap_new w8 (.cells #[.bool true] 4))
          have hu9 := owns_kept ku8.out (fun q hq => q9.block q (ku8.out.lt q hq).2 (fun h => h))
          have kow9 := hid (owns_kept kow8.out (fun q hq => q9.block q (kow8.out.lt q hq).2 (fun h => h)))
          have kO9 := hid (kO8.out.trans q9)
          have hsz9 := kO9.out.size
          have hb32 : (wiL c k).length ≤ 32 := by rw [wiL_len]; omega
          have ku9 := hid hu9
          clear q9 ow8 gr8 hf8 hr7 hO7
          go_wp2_with (at_builtin; refine wpAppB (by rfl) _ _ (by rfl) w3.heap.size (.slice ua un um) w8.heap.size _ true (by rfl) (by rfl) hu9 hO9 (by omega) hsz9 ?_)
          generalize w8.alloc (.cells #[.bool true] 4) = w9 at *
          intro v10 w10 ow10 gr10
          have hf10 : Frm (fun q => (Value.slice ua un um).ownBlock = some q) w9 w10 := Frm.grown (Frm.refl _ _) gr10 (fun q hq => Or.inr hq)
          have kow11 := hid (own_other kow9.out ku9.out (by decide) hf10)
          have kO11 : Hid (Old w3 w10) := Frm.trans kO9.out hf10 (fun q hq e => by have := (ku9.out.lt q e).1; omega)
          have ku11 : Hid (w10.ownsRow w3.heap.size 4 1 v10 (wiL c (k + 1)).length ((wiL c (k + 1)).map Value.bool)) := by
            rw [wiL_succ, kwb.out, List.length_append, List.map_append]
            exact ow10
          clear ow10 gr10 hf10 hu9 hO9
          go_wp2_with fail
          go_roundw
          case rel => exact ⟨k + 1, by omega, by go_num, kow11.out, ku11.out, kO11.out⟩
          case measure => simp [intOf]; omega
        · have kwb : Hid (decide (0 ≤ c.getD k (-1)) = false) := by show _ = _; rw [hgc]; simpa using hx
          have kwz : Hid (wonZ B c k = 0) := by have := kwd.out; rw [if_neg hx] at this; exact this
          have hx1 : c[k] < 0 := by omega
          have hx2 : ¬ c[k] ≥ 0 := by omega
          have hx3 : decide (c[k] ≥ 0) = false := by simpa using hx2
          have hx4 : decide (0 ≤ c[k]) = false := by simpa using hx
          clear hokc ki2 hgc kwd
          generalize c[k] = cn at *
          generalize B[k].length = bl at *
          have q7 : Old wr (wr.alloc (.cells #[.int .i64 0] 2)) := (Old.refl wr).alloc _
          have hO7 : NumsC .i64 (wr.alloc (.cells #[.int .i64 0] 2)) (some ⟨wr.heap.size, 0, none⟩) [0] := nums_blk (L := [0]) (heap_new wr (.cells #[.int .i64 0] 2))
          have hr7 := owns_kept kX.out.1 (fun q hq => q7.block q (kX.out.1.lt q hq).2 (fun h => h))
          have hu7 := owns_kept kX.out.2.1 (fun q hq => q7.block q (kX.out.2.1.lt q hq).2 (fun h => h))
          have ku7 := hid hu7
          have kr7 := hid hr7
          have kO7 := hid (kX.out.2.2.trans q7)
          have hsz7 := kO7.out.size
          have hl32 : (woL B c k).length ≤ 32 := by rw [woL_len]; omega
          clear q7 hu7
          go_wp2_with (at_builtin; refine wpAppL (by rfl) _ _ (by rfl) w3.heap.size (.slice va vn vm) (some ⟨wr.heap.size, 0, none⟩) 1 _ [0] (by rfl) (by rfl) hr7 hO7 (fun h => by cases h) (by simp; omega) hsz7 ?_)
          generalize wr.alloc (.cells #[.int .i64 0] 2) = w7 at *
          intro v8 w8 ow8 gr8
          have hf8 : Frm (fun q => (Value.slice va vn vm).ownBlock = some q) w7 w8 := Frm.grown (Frm.refl _ _) gr8 (fun q hq => Or.inr hq)
          have ku8 := hid (own_other ku7.out kr7.out (by decide) hf8)
          have kO8 : Hid (Old w3 w8) := Frm.trans kO7.out hf8 (fun q hq e => by have := (kr7.out.lt q e).1; omega)
          have kow8 : Hid (w8.ownsRow w3.heap.size 2 1 v8 (woL B c (k + 1)).length ((woL B c (k + 1)).map (Value.int .i64))) := by
            rw [woL_succ, List.length_append, List.map_append, kwz.out]
            exact ow8
          have q9 : Old w8 (w8.alloc (.cells #[.bool false] 4)) := (Old.refl w8).alloc _
          have hO9 := blk_cell (heap_new w8 (.cells #[.bool false] 4))
          have hu9 := owns_kept ku8.out (fun q hq => q9.block q (ku8.out.lt q hq).2 (fun h => h))
          have kow9 := hid (owns_kept kow8.out (fun q hq => q9.block q (kow8.out.lt q hq).2 (fun h => h)))
          have kO9 := hid (kO8.out.trans q9)
          have hsz9 := kO9.out.size
          have hb32 : (wiL c k).length ≤ 32 := by rw [wiL_len]; omega
          have ku9 := hid hu9
          clear q9 ow8 gr8 hf8 hr7 hO7
          go_wp2_with (at_builtin; refine wpAppB (by rfl) _ _ (by rfl) w3.heap.size (.slice ua un um) w8.heap.size _ false (by rfl) (by rfl) hu9 hO9 (by omega) hsz9 ?_)
          generalize w8.alloc (.cells #[.bool false] 4) = w9 at *
          intro v10 w10 ow10 gr10
          have hf10 : Frm (fun q => (Value.slice ua un um).ownBlock = some q) w9 w10 := Frm.grown (Frm.refl _ _) gr10 (fun q hq => Or.inr hq)
          have kow11 := hid (own_other kow9.out ku9.out (by decide) hf10)
          have kO11 : Hid (Old w3 w10) := Frm.trans kO9.out hf10 (fun q hq e => by have := (ku9.out.lt q e).1; omega)
          have ku11 : Hid (w10.ownsRow w3.heap.size 4 1 v10 (wiL c (k + 1)).length ((wiL c (k + 1)).map Value.bool)) := by
            rw [wiL_succ, kwb.out, List.length_append, List.map_append]
            exact ow10
          clear ow10 gr10 hf10 hu9 hO9
          go_wp2_with fail
          go_roundw
          case rel => exact ⟨k + 1, by omega, by go_num, kow11.out, ku11.out, kO11.out⟩
          case measure => simp [intOf]; omega
      · obtain rfl : k = B.length := by omega
        have hlt' : ¬ (B.length : Int) < (B.length : Int) := by omega
        have kX := hid hX.out
        clear hX
        go_wp2_with fail
        refine bodyPost_ret (v := .tuple #[u7, u8, .int .i64 0]) (by simp [results, Tryd.f44, go_sem]) rfl ?_
        rw [kBP.out]
        have hle := ko3.out.size
        exact ⟨ko3.out.trans kX.out.2.2, .inl ⟨khz.out, _, _, rfl, ownLow kX.out.1 hle, ownLow kX.out.2.1 hle⟩⟩
  · have hzb : (insZ gd B != 0) = true := by simpa using hz
    have khz := hid hz
    clear hz x1 y0
    go_wp2_with fail
    refine bodyPost_ret (v := .tuple #[.slice none 0 0, .slice none 0 0, .int .i64 (insZ gd B)]) (by simp [results, Tryd.f44, go_sem]) rfl ?_
    exact ⟨ko3.out, .inr ⟨khz.out, rfl⟩⟩
end Go.Proofs.YtgikkbkgmjacmaaDoor

/- The document's steps: walked. -/
namespace Go.Proofs.YtgikkbkgmjacmaaDoor
open Go.RowKit Go.Lib Go.Shelf
attribute [local go_sem] Oper.semAt_some

/-- The cells of a row of steps. -/
def flatT : List (Nat × List Int) → List Value → List Value
  | x :: L, u :: V => .int .i64 (x.1 : Int) :: u :: flatT L V
  | _, _ => []
theorem flatT_len : ∀ {L : List (Nat × List Int)} {V : List Value}, V.length = L.length → (flatT L V).length = L.length * 2
  | [], [], _ => rfl
  | x :: L, u :: V, h => by simp [flatT, flatT_len (L := L) (V := V) (by simpa using h)]; omega
  | [], u :: V, h => by simp at h
  | x :: L, [], h => by simp at h
theorem flatT_app : ∀ {L : List (Nat × List Int)} {V : List Value} (x : Nat × List Int) (u : Value), V.length = L.length → flatT (L ++ [x]) (V ++ [u]) = flatT L V ++ [.int .i64 (x.1 : Int), u]
  | [], [], _, _, _ => rfl
  | y :: L, v :: V, x, u, h => by
    have := flatT_app (L := L) (V := V) x u (by simpa using h)
    simp [flatT, this]
  | [], u :: V, _, _, h => by simp at h
  | x :: L, [], _, _, h => by simp at h
theorem flatT_get : ∀ {L : List (Nat × List Int)} {V : List Value} {j : Nat}, V.length = L.length → j < L.length → (flatT L V)[j * 2]? = some (.int .i64 ((L.getD j (0, [])).1 : Int)) ∧ (flatT L V)[j * 2 + 1]? = some (V.getD j nilS)
  | x :: L, u :: V, 0, _, _ => ⟨rfl, rfl⟩
  | x :: L, u :: V, j + 1, h, hj => by
    have := flatT_get (L := L) (V := V) (j := j) (by simpa using h) (by simpa using hj)
    rw [show (j + 1) * 2 = j * 2 + 2 by omega]
    simpa [flatT] using this
  | [], _, _, _, hj => by simp at hj
  | x :: L, [], _, h, _ => by simp at h
theorem info_T : (Tryd.prog.info? 48).map (fun i => (i.zero, i.bytes, i.size)) = some (some (.agg #[.int .i64 0, .slice none 0 0]), 32, 2) := by kernel_rfl
theorem parts_T : ∃ i, Tryd.prog.info? 48 = some i ∧ i.zero = some (.agg #[.int .i64 0, .slice none 0 0]) ∧ i.size = 2 ∧ i.bytes = 32 := by
  obtain ⟨i, hi, h2⟩ := Option.map_eq_some_iff.1 info_T
  simp only [Prod.mk.injEq] at h2
  exact ⟨i, hi, h2.1, h2.2.2, h2.2.1⟩
/-- A step behind a row of such that one owns. -/
theorem wpAppT {ops : Array Oper} {rest : List Oper} {o : Oper} {a : Act} {Q : Exit → Act → World → Prop} {w : World} (hgd : o.guard = none) (s x : Operand) (ho : o.op = .call { callee := .builtin .append, args := #[s, x], argTypes := #[34, 34] })
    (B : Nat) (v : Value) (b : Nat) (n : Nat) (X : List Value) (z : Int) (u : Value) (hu : u.oneCell' = true) (hX : X.length = n * 2) (hs : a.eval s = v) (hx : a.eval x = .slice (some ⟨b, 0, none⟩) 1 1) (hown : w.ownsRow B 48 2 v n X) (hO : w.heap[b]? = some (.cells #[.int .i64 z, u] 48 (0, 0))) (hl : n ≤ 1000) (hB : B ≤ w.heap.size)
    (h : ∀ v' w', w'.ownsRow B 48 2 v' (n + 1) (X ++ [.int .i64 z, u]) → w.grownBy w' v.ownBlock → wpList Tryd.prog ops Q rest (a.put o.dst v') w') : wpList Tryd.prog ops Q (o :: rest) a w := by
  obtain ⟨i0, hi0, hz0, hz1, hz2⟩ := parts_T
  refine wpList_append_own _ hgd s x 34 ho B 48 i0 _ 2 32 Tryd.underlying34 hi0 hz0 hz1 hz2 rfl (by omega) v n X hs hown ⟨b, 0, none⟩ 1 1 [.int .i64 z, u] hx rfl (fun j q hq => ?_) (fun q hq => ?_) (by unfold maxLen; omega) (by omega) hB (fun v' w' h8 h9 _ => h v' w' h8 h9)
  · match j, hq with
    | 0, hq =>
      obtain rfl : Value.int .i64 z = q := by simpa using hq
      rw [Addr.add_lit]
      exact blk_cells hO rfl
    | 1, hq =>
      obtain rfl : u = q := by simpa using hq
      rw [Addr.add_lit]
      exact blk_cells hO rfl
  · rcases List.mem_cons.1 hq with rfl | hq
    · rfl
    · obtain rfl : q = u := by simpa using hq
      exact hu

/-- Steps in new memory. -/
def StL (N : Nat) (w : World) (v : Value) (L : List (Nat × List Int)) : Prop := ∃ V : List Value, V.length = L.length ∧ w.ownsRow N 48 2 v L.length (flatT L V) ∧ ∀ j, j < L.length → NewL N w (V.getD j nilS) (L.getD j (0, [])).2
theorem StL.frm {N : Nat} {S : Nat → Prop} {w w' : World} {v : Value} {L : List (Nat × List Int)} (h : StL N w v L) (hf : Frm S w w') (hS : ∀ q cur t, w.heap[q]? = some (.cells cur t (0, 0)) → t = 48 ∨ t = 2 → N ≤ q → ¬ S q) : StL N w' v L := by
  obtain ⟨V, h1, h2, h3⟩ := h
  refine ⟨V, h1, ownK h2 (fun q cur _ hq hN => hf.block q (blk_lt hq) (hS q cur _ hq (.inl rfl) hN)), fun j hj => ?_⟩
  obtain ⟨ao, c, e1, h4⟩ := h3 j hj
  refine ⟨ao, c, e1, h4.imp id ?_⟩
  rintro ⟨b, cur, e2, e3, e4, e5⟩
  exact ⟨b, cur, e2, e3, by rw [hf.block b (blk_lt e4) (hS b cur _ e4 (.inr rfl) e3)]; exact e4, e5⟩
theorem StL.old {N : Nat} {w w' : World} {v : Value} {L : List (Nat × List Int)} (h : StL N w v L) (o : Old w w') : StL N w' v L := h.frm o (fun _ _ _ _ _ _ h => h)
theorem StL.up {N M : Nat} {w : World} {v : Value} {L : List (Nat × List Int)} (h : StL N w v L) (hm : M ≤ N) : StL M w v L := by
  obtain ⟨V, h1, h2, h3⟩ := h
  exact ⟨V, h1, ownLow h2 hm, fun j hj => (h3 j hj).up hm⟩
theorem own_block2 {w : World} {B : Nat} {e : TypeId} {v : Value} {n : Nat} {xs : List Value} (h : w.ownsRow B e 2 v n xs) {g : Nat} (hg : v.ownBlock = some g) : ∃ cur, w.heap[g]? = some (.cells cur e (0, 0)) := by
  rcases h.2 with ⟨rfl, -⟩ | ⟨g', cap, cur, rfl, -, h4, -⟩
  · simp [Value.ownBlock] at hg
  · simp [Value.ownBlock] at hg
    subst hg
    exact ⟨cur, h4⟩

theorem bool_at {w : World} {N : Nat} {u : Value} {L : List Bool} (h : w.ownsRow N 4 1 u L.length (L.map Value.bool)) {k : Nat} (hk : k < L.length) : ∃ b m, u = .slice (some ⟨b, 0, none⟩) L.length m ∧ N ≤ b ∧ w.cell? ⟨b, k, none⟩ = some (.bool L[k]) := by
  rcases h.2 with ⟨-, h0⟩ | ⟨g, cap, cur, rfl, h3, h4, h5, h6, h7, h8⟩
  · omega
  · refine ⟨g, cap, rfl, h3, blk_cells h4 ?_⟩
    have h9 : (cur.toList.take (L.length * 1))[k]? = (L.map Value.bool)[k]? := by rw [h8]
    rw [List.getElem?_take_of_lt (by omega), List.getElem?_map, List.getElem?_eq_getElem hk] at h9
    simpa using h9
/-- The document's steps of an instance. -/
def stsL (gd : Int) (B : Ins) : List (Nat × List Int) := if insZ gd B = 0 then toK B (allZ gd).1 (wonL B (cosC gd B)) (cosC gd B) 32 else []
theorem toK_few (B : Ins) (f : Nat) (C c : List Int) : ∀ k, (toK B f C c k).length ≤ k
  | 0 => Nat.le_refl _
  | k + 1 => by
    have := toK_few B f C c k
    unfold toK
    split
    · rw [List.length_append]; simp; omega
    · omega

set_option maxRecDepth 100000 in
set_option maxHeartbeats 8000000 in
theorem rsteps_any (gd : Int) (bo : Option Addr) (cap : Nat) (B : Ins) (w : World) (h : InsC w bo B) (hl : B.length ≤ 9223372036854775807) :
    Calls Tryd.prog 13 #[.agg #[.int .i64 gd, .slice bo B.length cap]] w fun e w' => ∃ v, e = .returned v ∧ StL w.heap.size w' v (stsL gd B) ∧ Old w w' := by
  have o1 : Old w (w.alloc (.cells #[.int .i64 gd, .slice bo B.length cap] 24)) := (Old.refl w).alloc _
  have b1 := heap_new w (.cells #[.int .i64 gd, .slice bo B.length cap] 24)
  have x0 := blk_cells (i := 0) b1 rfl
  have x1 := blk_cells (i := 1) b1 rfl
  simp only [List.getElem_toArray, List.getElem_cons_zero, List.getElem_cons_succ] at x0 x1
  have ko := hid o1
  have kh := hid h
  have klt := hid (ins_lt h)
  have kBi := hid (rbids_any gd bo cap B _ (h.old o1) hl)
  have kst : Hid (stsL gd B = if insZ gd B = 0 then toK B (allZ gd).1 (wonL B (cosC gd B)) (cosC gd B) 32 else []) := rfl
  clear o1 b1 h
  go_enter Tryd.func13, Tryd.ntmps13
  go_wp2_with fail
  generalize w.alloc (.cells #[.int .i64 gd, .slice bo B.length cap] 24) = w1 at *
  refine kBi.out.mono ?_
  rintro e w2 ⟨o2, h2⟩
  have ko2 := hid (ko.out.trans o2)
  have x0 := o2.cell x0
  have x1 := o2.cell x1
  obtain ⟨hz, bv, bu, rfl, hbv, hbu⟩ | ⟨hz, rfl⟩ := h2
  · have khz := hid hz
    rw [if_pos hz] at kst
    have kNB := hid (won_nb hz klt.out)
    have kpb := hid (payB_of hz klt.out kNB.out.le)
    have kw := hid (win_of hz klt.out)
    have hfew := kw.out.few
    have kcl : Hid ((cosC gd B).length = B.length) := kw.out.len
    have kCl := hid (won_len B (cosC gd B))
    obtain ⟨f, hf⟩ : ∃ f, (allZ gd).1 = f := ⟨_, rfl⟩
    have kf := hid hf
    have kall : Hid (f < 4294967296) := by rw [← hf]; exact all_lt gd
    rw [hf] at kst kNB
    generalize cosC gd B = c at *
    generalize wonL B c = C at *
    have hC32 : C.length ≤ 32 := by have := kCl.out; omega
    obtain ⟨va, vc, rfl, -⟩ := id (NewL.own hbv)
    have hvn := (NewL.own hbv).nums
    have hvnone : va = none → vc = 0 := by
      rcases hbv.2 with ⟨e, -⟩ | ⟨g, cp, cur, e, -⟩
      · simp only [Value.slice.injEq] at e
        exact fun _ => e.2.2
      · simp only [Value.slice.injEq] at e
        intro h9
        rw [h9] at e
        cases e.1
    have kx0 := hid x0
    have kx1 := hid x1
    have kbv := hid hbv
    have kbu := hid hbu
    clear hf hz o2 x0 x1
    go_wp2_with (at_builtin; refine wpAppL (by rfl) _ _ (by rfl) w2.heap.size (.slice none 0 0) va vc [] C (by rfl) (by rfl) ⟨rfl, .inl ⟨rfl, rfl⟩⟩ hvn hvnone (by simp; omega) (Nat.le_refl _) ?_)
    intro v3 w3 own3 gr3
    have o3 : Old w2 w3 := Frm.grown (Frm.refl _ _) gr3 (fun q hq => by simp [Value.ownBlock] at hq)
    have ko3 := hid (ko2.out.trans o3)
    have ko23 := hid o3.size
    have kn3 := hid (NewL.own own3)
    have kx0 := hid (o3.cell kx0.out)
    have kx1 := hid (o3.cell kx1.out)
    have kbu3 := hid (owns_kept kbu.out (fun q hq => o3.block q (kbu.out.lt q hq).2 (fun h => h)))
    have kvn3 := hid (hvn.old o3)
    have hw23 : Hid (w.heap.size ≤ w2.heap.size) := ko2.out.size
    have kok := hid (fun k => (paK_ok (k := k) (c := c) kNB.out kcl.out klt.out kall.out).1)
    clear own3 gr3 o3 hvn hvnone
    go_wp2_with fail
    go_loopw [6, 7, 8] (fun t6 t7 t8 wr => ∃ k : Nat, k ≤ C.length ∧ t8 = .int .i64 (k : Int) ∧ Hid (StL w3.heap.size wr t6 (toK B f C c k) ∧ NewL w2.heap.size wr t7 (paK B f C c k) ∧ Old w3 wr)) (fun _ _ t8 _ => C.length - (intOf t8).toNat)
    case atStart => exact ⟨0, Nat.zero_le _, rfl, ⟨[], rfl, ⟨rfl, .inl ⟨rfl, rfl⟩⟩, fun j hj => by simp [toK] at hj⟩, kn3.out, Old.refl _⟩
    case round =>
      obtain ⟨k, hk, rfl, hX⟩ := hrel
      obtain ⟨pa, pcp, rfl, -⟩ := id hX.out.2.1
      have hpl := paK_len B f C c k
      rw [hpl]
      by_cases hlt : k < C.length
      · have hlt' : (k : Int) < (C.length : Int) := by omega
        have hkB : k < B.length := by have := kCl.out; omega
        have hwl : (wiL c B.length).length = B.length := wiL_len c B.length
        obtain ⟨ub, um, rfl, hub, u1⟩ := bool_at kbu3.out (k := k) (by omega)
        have hwk : (wiL c B.length)[k]'(by omega) = decide (0 ≤ c.getD k (-1)) := by simp [wiL]
        rw [hwk] at u1
        have zu := hX.out.2.2.cell u1
        rw [hwl]
        have hkB' : (k : Int) < (B.length : Int) := by omega
        have kto : Hid (toK B f C c (k + 1) = if 0 ≤ c.getD k (-1) then toK B f C c k ++ [(k, paK B f C c (k + 1))] else toK B f C c k) := rfl
        have kpa : Hid (paK B f C c (k + 1) = if 0 ≤ c.getD k (-1) then (paK B f C c k).set k (leZ B f C (paK B f C c k) k) else paK B f C c k) := rfl
        have kX := hid hX.out
        have khpl := hid hpl
        clear hX u1 hwk hpl
        by_cases hw : 0 ≤ c.getD k (-1)
        · rw [decide_eq_true hw] at zu
          rw [if_pos hw] at kto kpa
          obtain ⟨P, hPe⟩ : ∃ P, paK B f C c k = P := ⟨_, rfl⟩
          have kPe := hid hPe
          have kP1 := hid (kok.out k)
          rw [hPe] at kX kpa khpl kP1
          have kPB : Hid (PayB B C P) := ⟨kpb.out.lenC, by rw [khpl.out]; exact kpb.out.lenC, kpb.out.few, kpb.out.eight, kpb.out.coin, kpb.out.lt, kpb.out.c, kP1.out.le.mem2 (fun x hx => (kpb.out.c x hx).2)⟩
          obtain ⟨pb, rfl⟩ : ∃ pb, pa = some ⟨pb, 0, none⟩ := by
            obtain ⟨ao, c', e1, hh⟩ := kX.out.2.1
            simp only [Value.slice.injEq] at e1
            rcases hh with ⟨-, hh⟩ | ⟨b', cur, hh, -⟩
            · have := khpl.out
              rw [hh] at this
              simp at this
              omega
            · exact ⟨b', by rw [e1.1, hh]⟩
          obtain ⟨ta, tn, tm, rfl⟩ : ∃ va vn vm, u6 = .slice va vn vm := by
            obtain ⟨V, -, hV, -⟩ := kX.out.1
            rcases hV.2 with ⟨h, -⟩ | ⟨g, cap, cur, h, -⟩
            · exact ⟨_, _, _, h⟩
            · exact ⟨_, _, _, h⟩
          have hPn := kX.out.2.1.nums
          have hP32 : P.length ≤ 32 := by rw [khpl.out]; exact hC32
          clear hPe
          go_upto_region 10 with fail
          go_upto_region 11 with (at_builtin; refine wpAppL (by rfl) _ _ (by rfl) wr.heap.size (.slice none 0 0) (some ⟨pb, 0, none⟩) pcp [] P (by rfl) (by rw [khpl.out]; rfl) ⟨rfl, .inl ⟨rfl, rfl⟩⟩ hPn (fun h => by cases h) (by simp; omega) (Nat.le_refl _) ?_)
          intro v4 w4 own4 gr4
          have o4 : Old wr w4 := Frm.grown (Frm.refl _ _) gr4 (fun q hq => by simp [Value.ownBlock] at hq)
          have kn4 := hid (NewL.own own4)
          obtain ⟨nb, nm, rfl⟩ : ∃ nb nm, v4 = .slice (some ⟨nb, 0, none⟩) C.length nm := by
            obtain ⟨ao, c', e1, hh⟩ := kn4.out
            rw [khpl.out] at e1
            rcases hh with ⟨-, hh⟩ | ⟨b', cur, hh, -⟩
            · have := khpl.out
              rw [hh] at this
              simp at this
              omega
            · exact ⟨b', c', by rw [e1, hh]⟩
          have knb := hid kn4.out.lt
          have koW := hid ((ko3.out.trans kX.out.2.2).trans o4)
          have kO4 := hid (kX.out.2.2.trans o4)
          have z0 := kO4.out.cell kx0.out
          have z1 := kO4.out.cell kx1.out
          have kLe := hid (rleast_any gd bo va (some ⟨pb, 0, none⟩) cap vc pcp B C P k hkB w4 ⟨kh.out.old koW.out, kvn3.out.old kO4.out, hPn.old o4⟩ kPB.out khz.out)
          rw [khpl.out, kf.out] at kLe
          have kSt4 := hid (kX.out.1.old o4)
          generalize leZ B f C P k = z at *
          clear own4 gr4 zu hPn
          go_wp2_with fail
          refine kLe.out.mono ?_
          rintro e w5 ⟨rfl, o5⟩
          have kn5 := hid (kn4.out.old o5)
          have kn5' : Hid (NewL wr.heap.size w5 (.slice (some ⟨nb, 0, none⟩) P.length nm) P) := by have h9 := kn5.out; rw [← khpl.out] at h9; exact h9
          have kset := hid (kn5'.out.set k z)
          obtain ⟨qg, qo, hqa, q1⟩ := kn5.out.nums k (by rw [khpl.out]; exact hlt)
          simp only [Option.some.injEq, Addr.mk.injEq, and_true] at hqa
          obtain ⟨rfl, rfl⟩ := hqa
          rw [Nat.zero_add] at q1
          have hfz : w5.frozen? ⟨nb, k, none⟩ = false := by
            obtain ⟨ao, c', e1, hh⟩ := kn5.out
            simp only [Value.slice.injEq] at e1
            rcases hh with ⟨hh, -⟩ | ⟨b', cur, hh, -, hh3, -⟩
            · rw [← e1.1] at hh; cases hh
            · rw [← e1.1] at hh
              simp only [Option.some.injEq, Addr.mk.injEq, and_true] at hh
              rw [hh]
              exact blk_fz hh3 k
          have fS := frm_set w5 nb k (.int .i64 z)
          have kSt6 := hid (kX.out.1.frm (Frm.trans (S := fun q => q = nb) (Frm.mono (o4.trans o5) (fun _ _ h => h.elim)) fS (fun _ _ e => e)) (fun q cur t hq _ _ e => by have := blk_lt hq; have := knb.out.1; omega))
          have kO6 : Hid (Old w3 (w5.setCell ⟨nb, k, none⟩ (.int .i64 z))) := Frm.trans (kO4.out.trans o5) fS (fun i hi e => by have := knb.out; have := kX.out.2.2.size; omega)
          generalize P[k]'(by rw [khpl.out]; exact hlt) = xo at *
          clear o5 z0 z1 fS o4
          go_upto_region 12 with fail
          generalize w5.setCell ⟨nb, k, none⟩ (.int .i64 z) = w6 at *
          clear q1 hfz
          go_upto_region 13 with fail
          have hw2r : Hid (w3.heap.size ≤ wr.heap.size) := kX.out.2.2.size
          obtain ⟨V, hVl, hVo, hVn⟩ := kSt6.out
          have q7 : Old w6 (w6.alloc (.cells #[.int .i64 (k : Int), .slice (some ⟨nb, 0, none⟩) C.length nm] 48)) := (Old.refl w6).alloc _
          have b7 := heap_new w6 (.cells #[.int .i64 (k : Int), .slice (some ⟨nb, 0, none⟩) C.length nm] 48)
          have hVo7 := ownK hVo (fun q cur _ hq _ => q7.block q (blk_lt hq) (fun h => h))
          have kVo7 := hid hVo7
          have kVn7 : Hid (∀ j, j < (toK B f C c k).length → NewL w3.heap.size (w6.alloc (.cells #[.int .i64 (k : Int), .slice (some ⟨nb, 0, none⟩) C.length nm] 48)) (V.getD j nilS) ((toK B f C c k).getD j (0, [])).2) := fun j hj => (hVn j hj).old q7
          have kse7 := hid ((kset.out.up hw2r.out).old q7)
          have kO7 := hid (kO6.out.trans q7)
          have hsz7 := kO7.out.size
          have hfewk := toK_few B f C c k
          have hFl := flatT_len hVl
          have kVl := hid hVl
          have h23 := ko23.out
          clear q7 hVo hVn hVl kSt6
          go_wp2_with (at_builtin; refine wpAppT (by rfl) _ _ (by rfl) w3.heap.size (.slice ta tn tm) w6.heap.size (toK B f C c k).length (flatT (toK B f C c k) V) (k : Int) (.slice (some ⟨nb, 0, none⟩) C.length nm) rfl hFl (by rfl) (by rfl) hVo7 b7 (by omega) (by omega) ?_)
          generalize w6.alloc (.cells #[.int .i64 (k : Int), .slice (some ⟨nb, 0, none⟩) C.length nm] 48) = w7 at *
          intro v8 w8 ow8 gr8
          have hf8 : Frm (fun q => (Value.slice ta tn tm).ownBlock = some q) w7 w8 := Frm.grown (Frm.refl _ _) gr8 (fun q hq => Or.inr hq)
          have hnl : ∀ {u : Value} {L : List Int}, NewL w3.heap.size w7 u L → NewL w3.heap.size w8 u L := fun {u L} hu => by
            obtain ⟨ao, c', e1, hh⟩ := hu
            refine ⟨ao, c', e1, hh.imp id ?_⟩
            rintro ⟨b', cur, e2, e3, e4, e5⟩
            refine ⟨b', cur, e2, e3, ?_, e5⟩
            rw [hf8.block b' (blk_lt e4) (fun e => by
              obtain ⟨cur', hc'⟩ := own_block2 kVo7.out e
              exact typ_ne e4 hc' (by decide) rfl)]
            exact e4
          have kO8 : Hid (Old w3 w8) := Frm.trans kO7.out hf8 (fun q hq e => by have := (kVo7.out.lt q e).1; omega)
          have kN8 : Hid (StL w3.heap.size w8 v8 (toK B f C c (k + 1)) ∧ NewL w2.heap.size w8 (.slice (some ⟨nb, 0, none⟩) C.length nm) (paK B f C c (k + 1)) ∧ Old w3 w8) := by
            have hset8 : NewL w3.heap.size w8 (.slice (some ⟨nb, 0, none⟩) C.length nm) (paK B f C c (k + 1)) := by
              rw [kpa.out]
              have h9 := hnl kse7.out
              rw [khpl.out] at h9
              exact h9
            refine ⟨?_, hset8.up ko23.out, kO8.out⟩
            rw [kto.out]
            refine ⟨V ++ [.slice (some ⟨nb, 0, none⟩) C.length nm], by simp [kVl.out], ?_, fun j hj => ?_⟩
            · rw [flatT_app _ _ kVl.out, List.length_append]
              exact ow8
            · rw [List.length_append] at hj
              by_cases e : j < (toK B f C c k).length
              · have e1 : (V ++ [Value.slice (some ⟨nb, 0, none⟩) C.length nm]).getD j nilS = V.getD j nilS := by simp [List.getD_eq_getElem?_getD, List.getElem?_append_left (show j < V.length by have := kVl.out; omega)]
                have e2 : (toK B f C c k ++ [(k, paK B f C c (k + 1))]).getD j (0, []) = (toK B f C c k).getD j (0, []) := by simp [List.getD_eq_getElem?_getD, List.getElem?_append_left e]
                rw [e1, e2]
                exact hnl (kVn7.out j e)
              · have e3 : j = (toK B f C c k).length := by simp at hj; omega
                subst e3
                have e1 : (V ++ [Value.slice (some ⟨nb, 0, none⟩) C.length nm]).getD (toK B f C c k).length nilS = .slice (some ⟨nb, 0, none⟩) C.length nm := by simp [List.getD_eq_getElem?_getD, ← kVl.out]
                have e2 : (toK B f C c k ++ [(k, paK B f C c (k + 1))]).getD (toK B f C c k).length (0, []) = (k, paK B f C c (k + 1)) := by simp [List.getD_eq_getElem?_getD]
                rw [e1, e2]
                exact hset8
          clear ow8 gr8 hf8 hVo7 b7
          go_wp2_with fail
          go_roundw
          case rel => exact ⟨k + 1, by omega, by go_num, kN8.out⟩
          case measure => simp [intOf]; omega
        · have hwb : decide (0 ≤ c.getD k (-1)) = false := by simpa using hw
          rw [hwb] at zu
          rw [if_neg hw] at kto kpa
          go_wp2_with fail
          go_roundw
          case rel => exact ⟨k + 1, by omega, by go_num, by rw [kto.out, kpa.out]; exact ⟨kX.out.1, by have h9 := kX.out.2.1; rw [khpl.out] at h9; exact h9, kX.out.2.2⟩⟩
          case measure => simp [intOf]; omega
      · obtain rfl : k = C.length := by omega
        have hlt' : ¬ (C.length : Int) < (C.length : Int) := by omega
        have kX := hid hX.out
        have hke : toK B f C c C.length = toK B f C c 32 := by
          have h1 := (paK_end (B := B) (f := f) (C := C) (c := c) (n := C.length) (by have := kcl.out; have := kCl.out; omega) (32 - C.length)).2
          rw [show C.length + (32 - C.length) = 32 by omega] at h1
          exact h1.symm
        have kke := hid hke
        clear hX hpl hke
        go_wp2_with fail
        go_ret
        exact ⟨_, rfl, by rw [kst.out, ← kke.out]; exact kX.out.1.up (Nat.le_trans hw23.out ko23.out), ko3.out.trans kX.out.2.2⟩
  · have hzb : (insZ gd B != 0) = true := by simpa using hz
    rw [if_neg hz] at kst
    clear hz o2
    go_wp2_with fail
    go_ret
    exact ⟨_, rfl, by rw [kst.out]; exact ⟨[], rfl, ⟨rfl, .inl ⟨rfl, rfl⟩⟩, fun j hj => by simp at hj⟩, ko2.out⟩
end Go.Proofs.YtgikkbkgmjacmaaDoor
