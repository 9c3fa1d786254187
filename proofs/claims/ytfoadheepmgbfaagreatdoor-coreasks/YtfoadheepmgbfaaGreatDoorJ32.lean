/- The document's bids, and who wins: walked. -/
import Derived.Test.YtfoadheepmgbfaaGreatDoorJ31
import Derived.Test.YtfoadheepmgbfaaGreatDoorJ29
namespace Go.Proofs.YtfoadheepmgbfaaGreatDoor
open Go.RowKit Go.Lib Go.Shelf
attribute [local go_sem] Oper.semAt_some

theorem info_b : (Tryz.prog.info? 4).map (fun i => (i.zero, i.bytes, i.size)) = some (some (.bool false), 1, 1) := by kernel_rfl
theorem parts_b : ∃ i, Tryz.prog.info? 4 = some i ∧ i.zero = some (.bool false) ∧ i.size = 1 ∧ i.bytes = 1 := by
  obtain ⟨i, hi, h2⟩ := Option.map_eq_some_iff.1 info_b
  simp only [Prod.mk.injEq] at h2
  exact ⟨i, hi, h2.1, h2.2.2, h2.2.1⟩
/-- A truth behind a row of such that one owns. -/
theorem wpAppB {ops : Array Oper} {rest : List Oper} {o : Oper} {a : Act} {Q : Exit → Act → World → Prop} {w : World} (hgd : o.guard = none) (s x : Operand) (ho : o.op = .call { callee := .builtin .append, args := #[s, x], argTypes := #[47, 47] })
    (B : Nat) (v : Value) (b : Nat) (L : List Bool) (l : Bool) (hs : a.eval s = v) (hx : a.eval x = .slice (some ⟨b, 0, none⟩) 1 1) (hown : w.ownsRow B 4 1 v L.length (L.map Value.bool)) (hO : w.cell? ⟨b, 0, none⟩ = some (.bool l)) (hl : L.length ≤ 1000) (hB : B ≤ w.heap.size)
    (h : ∀ v' w', w'.ownsRow B 4 1 v' (L ++ [l]).length ((L ++ [l]).map Value.bool) → w.grownBy w' v.ownBlock → wpList Tryz.prog ops Q rest (a.put o.dst v') w') : wpList Tryz.prog ops Q (o :: rest) a w := by
  obtain ⟨i0, hi0, hz0, hz1, hz2⟩ := parts_b
  refine wpList_append_own _ hgd s x 47 ho B 4 i0 _ 1 1 Tryz.underlying47 hi0 hz0 hz1 hz2 rfl (by omega) v L.length (L.map Value.bool) hs hown ⟨b, 0, none⟩ 1 1 [.bool l] hx rfl (fun j u hu => ?_) (fun u hu => ?_) (by unfold maxLen; omega) (by omega) hB (fun v' w' h8 h9 _ => h v' w' (by rw [List.length_append, List.map_append]; exact h8) h9)
  · match j, hu with
    | 0, hu =>
      obtain rfl : Value.bool l = u := by simpa using hu
      rw [Addr.add_lit]
      exact hO
  · obtain rfl : u = .bool l := by simpa using hu
    rfl

/-- Who wins, as truths. -/
def wiL (c : List Int) (n : Nat) : List Bool := (List.range n).map (fun i => decide (0 ≤ c.getD i (-1)))
theorem wiL_succ (c : List Int) (k : Nat) : wiL c (k + 1) = wiL c k ++ [decide (0 ≤ c.getD k (-1))] := by
  unfold wiL
  rw [List.range_succ, List.map_append]
  rfl
theorem wiL_len (c : List Int) (k : Nat) : (wiL c k).length = k := by simp [wiL]
def woL (B : Ins) (c : List Int) (k : Nat) : List Int := (List.range k).map (wonZ B c)
theorem woL_succ (B : Ins) (c : List Int) (k : Nat) : woL B c (k + 1) = woL B c k ++ [wonZ B c k] := by
  unfold woL
  rw [List.range_succ, List.map_append]
  rfl
theorem woL_len (B : Ins) (c : List Int) (k : Nat) : (woL B c k).length = k := by simp [woL]
theorem own_other {w w' : World} {B1 B2 : Nat} {e1 e2 : TypeId} {v1 v2 : Value} {n1 n2 : Nat} {x1 x2 : List Value} (h1 : w.ownsRow B1 e1 1 v1 n1 x1) (h2 : w.ownsRow B2 e2 1 v2 n2 x2) (hne : e1 ≠ e2) (hf : Frm (fun q => v2.ownBlock = some q) w w') : w'.ownsRow B1 e1 1 v1 n1 x1 :=
  owns_kept h1 (fun q hq => by
    obtain ⟨c1, hc1⟩ := owns_block h1 hq
    refine hf.block q (blk_lt hc1) (fun e => ?_)
    obtain ⟨c2, hc2⟩ := owns_block h2 e
    exact typ_ne hc1 hc2 hne rfl)

/-- What Bids answers. -/
def BidP (gd : Int) (B : Ins) (w : World) (e : Ending) (w' : World) : Prop := Old w w' ∧ ((insZ gd B = 0 ∧ ∃ v u, e = .returned (.tuple #[v, u, .int .i64 0]) ∧ w'.ownsRow w.heap.size 2 1 v (wonL B (cosC gd B)).length ((wonL B (cosC gd B)).map (Value.int .i64)) ∧ w'.ownsRow w.heap.size 4 1 u (wiL (cosC gd B) B.length).length ((wiL (cosC gd B) B.length).map Value.bool)) ∨ (insZ gd B ≠ 0 ∧ e = .returned (.tuple #[.slice none 0 0, .slice none 0 0, .int .i64 (insZ gd B)])))


set_option maxRecDepth 100000 in
set_option maxHeartbeats 8000000 in
theorem rbids_any (gd : Int) (bo : Option Addr) (cap : Nat) (B : Ins) (w : World) (h : InsC w bo B) (hl : B.length ≤ 9223372036854775807) :
    Calls Tryz.prog 30 #[.agg #[.int .i64 gd, .slice bo B.length cap]] w (BidP gd B w) := by
  have o1 : Old w (w.alloc (.cells #[.int .i64 gd, .slice bo B.length cap] 24)) := (Old.refl w).alloc _
  have b1 := heap_new w (.cells #[.int .i64 gd, .slice bo B.length cap] 24)
  have x0 := blk_cells (i := 0) b1 rfl
  have x1 := blk_cells (i := 1) b1 rfl
  simp only [qqa, qqb, qqc] at x0 x1
  have ko := hid o1
  have kh := hid h
  have klt := hid (ins_lt h)
  have kBe := hid (rbest_any gd bo cap B _ (h.old o1) hl)
  rw [ck_zero] at kBe
  clear o1 b1 h
  go_enter Tryz.func30, Tryz.ntmps30
  go_wp2_with fail
  generalize w.alloc (.cells #[.int .i64 gd, .slice bo B.length cap] 24) = w1 at *
  generalize hsz : w.heap.size = s at *
  have kss := hid hsz
  clear hsz
  refine kBe.out.mono ?_
  rintro e w2 ⟨v, rfl, hzv, o2⟩
  have hzv := hzv.up ko.out.size
  obtain ⟨ao, cc, hv, -⟩ := id hzv
  subst hv
  rw [show ptC gd B 0 (allZ gd).1 = cosC gd B from rfl] at hzv ⊢
  have q2 : Old w2 (w2.alloc (.cells #[.slice ao (cosC gd B).length cc, .int .i64 (frZ gd B 0 (allZ gd).1)] 71)) := (Old.refl w2).alloc _
  have y0 := new_cell w2 #[.slice ao (cosC gd B).length cc, .int .i64 (frZ gd B 0 (allZ gd).1)] 71 0 _ rfl
  simp only [qqa, qqb] at y0
  have oo := o2.trans q2
  have x1 := oo.cell x1
  have ko3 := hid (ko.out.trans oo)
  have kz := hid (hzv.old q2)
  clear oo q2 o2 hzv kBe x0
  by_cases hz : insZ gd B = 0
  · have kw : Hid (Win gd B (cosC gd B)) := win_of hz klt.out
    have khz := hid hz
    rw [hz]
    have hfew := kw.out.few
    have kcl : Hid ((cosC gd B).length = B.length) := kw.out.len
    have kBP : Hid (BidP gd B w = fun e w' => Old w w' ∧ ((insZ gd B = 0 ∧ ∃ v u, e = .returned (.tuple #[v, u, .int .i64 0]) ∧ w'.ownsRow w.heap.size 2 1 v (wonL B (cosC gd B)).length ((wonL B (cosC gd B)).map (Value.int .i64)) ∧ w'.ownsRow w.heap.size 4 1 u (wiL (cosC gd B) B.length).length ((wiL (cosC gd B) B.length).map Value.bool)) ∨ (insZ gd B ≠ 0 ∧ e = .returned (.tuple #[.slice none 0 0, .slice none 0 0, .int .i64 (insZ gd B)])))) := rfl
    generalize frZ gd B 0 (allZ gd).1 = bz at *
    generalize cosC gd B = c at *
    clear hz
    go_upto_region 4 with fail
    generalize w2.alloc (.cells #[.slice ao c.length cc, .int .i64 bz] 71) = w3 at *
    generalize w2.heap.size = bb at *
    have kx1 := hid x1
    have ky0 := hid y0
    clear x1 y0
    go_wp2_with fail
    go_loopw [7, 8, 9] (fun t7 t8 t9 wr => ∃ k : Nat, k ≤ B.length ∧ t9 = .int .i64 (k : Int) ∧ Hid (wr.ownsRow w3.heap.size 2 1 t7 (woL B c k).length ((woL B c k).map (Value.int .i64)) ∧ wr.ownsRow w3.heap.size 4 1 t8 (wiL c k).length ((wiL c k).map Value.bool) ∧ Old w3 wr)) (fun _ _ t9 _ => B.length - (intOf t9).toNat)
    case atStart => exact ⟨0, Nat.zero_le _, rfl, ⟨rfl, .inl ⟨rfl, rfl⟩⟩, ⟨rfl, .inl ⟨rfl, rfl⟩⟩, Old.refl _⟩
    case round =>
      obtain ⟨k, hk, rfl, hX⟩ := hrel
      have z1 := hX.out.2.2.cell kx1.out
      by_cases hlt : k < B.length
      · have hlt' : (k : Int) < (B.length : Int) := by omega
        have hkc : k < c.length := by have := kcl.out; omega
        have hkc' : (k : Int) < (c.length : Int) := by omega
        obtain ⟨cg, co, rfl, c1⟩ := kz.out.nums k hkc
        have zc := hX.out.2.2.cell c1
        have z0 := hX.out.2.2.cell ky0.out
        have hgc : c.getD k (-1) = c[k] := by rw [List.getD_eq_getElem?_getD, List.getElem?_eq_getElem hkc]; rfl
        have hgB : B.getD k [] = B[k] := by rw [List.getD_eq_getElem?_getD, List.getElem?_eq_getElem hlt]; rfl
        obtain ⟨g, o, a0, c0, rfl, i1, i2, -, -⟩ := kh.out k hlt
        have koX := hid (ko3.out.trans hX.out.2.2)
        have zr := koX.out.cell i1
        have hnum := kw.out.num _ (List.getElem_mem hkc)
        have hokc := kw.out.ok k hkc
        have kwd : Hid (wonZ B c k = if 0 ≤ c.getD k (-1) then ((B.getD k []).getD (c.getD k (-1)).toNat (0, 0)).2 else 0) := rfl
        rw [hgc, hgB] at kwd
        rw [hgB] at hokc
        obtain ⟨va, vn, vm, rfl⟩ : ∃ va vn vm, u7 = .slice va vn vm := by
          rcases hX.out.1.2 with ⟨h, -⟩ | ⟨g, cap, cur, h, -⟩
          · exact ⟨_, _, _, h⟩
          · exact ⟨_, _, _, h⟩
        obtain ⟨ua, un, um, rfl⟩ : ∃ va vn vm, u8 = .slice va vn vm := by
          rcases hX.out.2.1.2 with ⟨h, -⟩ | ⟨g, cap, cur, h, -⟩
          · exact ⟨_, _, _, h⟩
          · exact ⟨_, _, _, h⟩
        have kX := hid hX.out
        have ki2 := hid i2
        clear hX c1 i1 i2 hgB
        by_cases hx : 0 ≤ c[k]
        · obtain ⟨n, hn⟩ : ∃ n : Nat, c[k] = (n : Int) := ⟨c[k].toNat, by omega⟩
          have kwb : Hid (decide (0 ≤ c.getD k (-1)) = true) := by show _ = _; rw [hgc]; exact decide_eq_true hx
          have hnl := hokc hx
          rw [hn, Int.toNat_natCast] at hnl
          rw [if_pos hx, hn, Int.toNat_natCast, List.getD_eq_getElem?_getD, List.getElem?_eq_getElem hnl] at kwd
          have hnl' : (n : Int) < (B[k].length : Int) := by omega
          obtain ⟨og, oo, rfl, p1, p2⟩ := ki2.out n hnl
          have zo := koX.out.cell p2
          obtain ⟨xc, hxc⟩ : ∃ xc, (B[k][n]).2 = xc := ⟨_, rfl⟩
          have kwz : Hid (wonZ B c k = xc) := by show _ = _; rw [← hxc]; exact kwd.out
          rw [hxc] at zo
          rw [hn] at zc hnum
          have hn0 : ¬ (n : Int) < 0 := by omega
          have hn0' : (n : Int) ≥ 0 := by omega
          clear kwd
          clear p1 p2 hx hokc hn ki2 hgc hxc hnl
          generalize B[k].length = bl at *
          have q7 : Old wr (wr.alloc (.cells #[.int .i64 xc] 2)) := (Old.refl wr).alloc _
          have hO7 : NumsC .i64 (wr.alloc (.cells #[.int .i64 xc] 2)) (some ⟨wr.heap.size, 0, none⟩) [xc] := nums_blk (L := [xc]) (heap_new wr (.cells #[.int .i64 xc] 2))
          have hr7 := owns_kept kX.out.1 (fun q hq => q7.block q (kX.out.1.lt q hq).2 (fun h => h))
          have hu7 := owns_kept kX.out.2.1 (fun q hq => q7.block q (kX.out.2.1.lt q hq).2 (fun h => h))
          have ku7 := hid hu7
          have kr7 := hid hr7
          have kO7 := hid (kX.out.2.2.trans q7)
          have hsz7 := kO7.out.size
          have hl32 : (woL B c k).length ≤ 32 := by rw [woL_len]; omega
          clear q7 hu7
          go_wp2_with (at_builtin; refine wpAppL (by rfl) _ _ (by rfl) w3.heap.size (.slice va vn vm) (some ⟨wr.heap.size, 0, none⟩) 1 _ [xc] (by rfl) (by rfl) hr7 hO7 (fun h => by cases h) (by simp; omega) hsz7 ?_)
          generalize wr.alloc (.cells #[.int .i64 xc] 2) = w7 at *
          intro v8 w8 ow8 gr8
          have hf8 : Frm (fun q => (Value.slice va vn vm).ownBlock = some q) w7 w8 := Frm.grown (Frm.refl _ _) gr8 (fun q hq => Or.inr hq)
          have ku8 := hid (own_other ku7.out kr7.out (by decide) hf8)
          have kO8 : Hid (Old w3 w8) := Frm.trans kO7.out hf8 (fun q hq e => by have := (kr7.out.lt q e).1; omega)
          have kow8 : Hid (w8.ownsRow w3.heap.size 2 1 v8 (woL B c (k + 1)).length ((woL B c (k + 1)).map (Value.int .i64))) := by
            rw [woL_succ, List.length_append, List.map_append, kwz.out]
            exact ow8
          have q9 : Old w8 (w8.alloc (.cells #[.bool true] 4)) := (Old.refl w8).alloc _
          have hO9 := blk_cell (heap_new w8 (.cells #[.bool true] 4))
          have hu9 := owns_kept ku8.out (fun q hq => q9.block q (ku8.out.lt q hq).2 (fun h => h))
          have kow9 := hid (owns_kept kow8.out (fun q hq => q9.block q (kow8.out.lt q hq).2 (fun h => h)))
          have kO9 := hid (kO8.out.trans q9)
          have hsz9 := kO9.out.size
          have hb32 : (wiL c k).length ≤ 32 := by rw [wiL_len]; omega
          have ku9 := hid hu9
          clear q9 ow8 gr8 hf8 hr7 hO7
          go_wp2_with (at_builtin; refine wpAppB (by rfl) _ _ (by rfl) w3.heap.size (.slice ua un um) w8.heap.size _ true (by rfl) (by rfl) hu9 hO9 (by omega) hsz9 ?_)
          generalize w8.alloc (.cells #[.bool true] 4) = w9 at *
          intro v10 w10 ow10 gr10
          have hf10 : Frm (fun q => (Value.slice ua un um).ownBlock = some q) w9 w10 := Frm.grown (Frm.refl _ _) gr10 (fun q hq => Or.inr hq)
          have kow11 := hid (own_other kow9.out ku9.out (by decide) hf10)
          have kO11 : Hid (Old w3 w10) := Frm.trans kO9.out hf10 (fun q hq e => by have := (ku9.out.lt q e).1; omega)
          have ku11 : Hid (w10.ownsRow w3.heap.size 4 1 v10 (wiL c (k + 1)).length ((wiL c (k + 1)).map Value.bool)) := by
            rw [wiL_succ, kwb.out, List.length_append, List.map_append]
            exact ow10
          clear ow10 gr10 hf10 hu9 hO9
          go_wp2_with fail
          go_roundw
          case rel => exact ⟨k + 1, by omega, by go_num, kow11.out, ku11.out, kO11.out⟩
          case measure => simp [intOf]; omega
        · have kwb : Hid (decide (0 ≤ c.getD k (-1)) = false) := by show _ = _; rw [hgc]; simpa using hx
          have kwz : Hid (wonZ B c k = 0) := by have := kwd.out; rw [if_neg hx] at this; exact this
          have hx1 : c[k] < 0 := by omega
          have hx2 : ¬ c[k] ≥ 0 := by omega
          have hx3 : decide (c[k] ≥ 0) = false := by simpa using hx2
          have hx4 : decide (0 ≤ c[k]) = false := by simpa using hx
          clear hokc ki2 hgc kwd
          generalize c[k] = cn at *
          generalize B[k].length = bl at *
          have q7 : Old wr (wr.alloc (.cells #[.int .i64 0] 2)) := (Old.refl wr).alloc _
          have hO7 : NumsC .i64 (wr.alloc (.cells #[.int .i64 0] 2)) (some ⟨wr.heap.size, 0, none⟩) [0] := nums_blk (L := [0]) (heap_new wr (.cells #[.int .i64 0] 2))
          have hr7 := owns_kept kX.out.1 (fun q hq => q7.block q (kX.out.1.lt q hq).2 (fun h => h))
          have hu7 := owns_kept kX.out.2.1 (fun q hq => q7.block q (kX.out.2.1.lt q hq).2 (fun h => h))
          have ku7 := hid hu7
          have kr7 := hid hr7
          have kO7 := hid (kX.out.2.2.trans q7)
          have hsz7 := kO7.out.size
          have hl32 : (woL B c k).length ≤ 32 := by rw [woL_len]; omega
          clear q7 hu7
          go_wp2_with (at_builtin; refine wpAppL (by rfl) _ _ (by rfl) w3.heap.size (.slice va vn vm) (some ⟨wr.heap.size, 0, none⟩) 1 _ [0] (by rfl) (by rfl) hr7 hO7 (fun h => by cases h) (by simp; omega) hsz7 ?_)
          generalize wr.alloc (.cells #[.int .i64 0] 2) = w7 at *
          intro v8 w8 ow8 gr8
          have hf8 : Frm (fun q => (Value.slice va vn vm).ownBlock = some q) w7 w8 := Frm.grown (Frm.refl _ _) gr8 (fun q hq => Or.inr hq)
          have ku8 := hid (own_other ku7.out kr7.out (by decide) hf8)
          have kO8 : Hid (Old w3 w8) := Frm.trans kO7.out hf8 (fun q hq e => by have := (kr7.out.lt q e).1; omega)
          have kow8 : Hid (w8.ownsRow w3.heap.size 2 1 v8 (woL B c (k + 1)).length ((woL B c (k + 1)).map (Value.int .i64))) := by
            rw [woL_succ, List.length_append, List.map_append, kwz.out]
            exact ow8
          have q9 : Old w8 (w8.alloc (.cells #[.bool false] 4)) := (Old.refl w8).alloc _
          have hO9 := blk_cell (heap_new w8 (.cells #[.bool false] 4))
          have hu9 := owns_kept ku8.out (fun q hq => q9.block q (ku8.out.lt q hq).2 (fun h => h))
          have kow9 := hid (owns_kept kow8.out (fun q hq => q9.block q (kow8.out.lt q hq).2 (fun h => h)))
          have kO9 := hid (kO8.out.trans q9)
          have hsz9 := kO9.out.size
          have hb32 : (wiL c k).length ≤ 32 := by rw [wiL_len]; omega
          have ku9 := hid hu9
          clear q9 ow8 gr8 hf8 hr7 hO7
          go_wp2_with (at_builtin; refine wpAppB (by rfl) _ _ (by rfl) w3.heap.size (.slice ua un um) w8.heap.size _ false (by rfl) (by rfl) hu9 hO9 (by omega) hsz9 ?_)
          generalize w8.alloc (.cells #[.bool false] 4) = w9 at *
          intro v10 w10 ow10 gr10
          have hf10 : Frm (fun q => (Value.slice ua un um).ownBlock = some q) w9 w10 := Frm.grown (Frm.refl _ _) gr10 (fun q hq => Or.inr hq)
          have kow11 := hid (own_other kow9.out ku9.out (by decide) hf10)
          have kO11 : Hid (Old w3 w10) := Frm.trans kO9.out hf10 (fun q hq e => by have := (ku9.out.lt q e).1; omega)
          have ku11 : Hid (w10.ownsRow w3.heap.size 4 1 v10 (wiL c (k + 1)).length ((wiL c (k + 1)).map Value.bool)) := by
            rw [wiL_succ, kwb.out, List.length_append, List.map_append]
            exact ow10
          clear ow10 gr10 hf10 hu9 hO9
          go_wp2_with fail
          go_roundw
          case rel => exact ⟨k + 1, by omega, by go_num, kow11.out, ku11.out, kO11.out⟩
          case measure => simp [intOf]; omega
      · obtain rfl : k = B.length := by omega
        have hlt' : ¬ (B.length : Int) < (B.length : Int) := by omega
        have kX := hid hX.out
        clear hX
        go_wp2_with fail
        refine bodyPost_ret (v := .tuple #[u7, u8, .int .i64 0]) (by simp [results, Tryz.f30, go_sem]) rfl ?_
        rw [kBP.out]
        have hle := ko3.out.size
        exact ⟨ko3.out.trans kX.out.2.2, .inl ⟨khz.out, _, _, rfl, ownLow kX.out.1 hle, ownLow kX.out.2.1 hle⟩⟩
  · have hzb : (insZ gd B != 0) = true := by simpa using hz
    have khz := hid hz
    clear hz x1 y0
    go_wp2_with fail
    refine bodyPost_ret (v := .tuple #[.slice none 0 0, .slice none 0 0, .int .i64 (insZ gd B)]) (by simp [results, Tryz.f30, go_sem]) rfl ?_
    exact ⟨ko3.out, .inr ⟨khz.out, rfl⟩⟩
end Go.Proofs.YtfoadheepmgbfaaGreatDoor

/- The document's Asked: walked. -/
namespace Go.Proofs.YtfoadheepmgbfaaGreatDoor
open Go.RowKit Go.Lib Go.Shelf
attribute [local go_sem] Oper.semAt_some

/-- Truths as they lie. -/
def BolC (w : World) (ao : Option Addr) (L : List Bool) : Prop := ∀ i (h : i < L.length), ∃ g o, ao = some ⟨g, o, none⟩ ∧ w.cell? ⟨g, o + i, none⟩ = some (.bool L[i])
theorem BolC.old {w w' : World} {ao : Option Addr} {L : List Bool} (h : BolC w ao L) (o : Old w w') : BolC w' ao L := fun i hi => by
  obtain ⟨g, p, e, hc⟩ := h i hi
  exact ⟨g, p, e, o.cell hc⟩
theorem own_bol {w : World} {B : Nat} {ao : Option Addr} {c : Nat} {L : List Bool} (h : w.ownsRow B 4 1 (.slice ao L.length c) L.length (L.map Value.bool)) : BolC w ao L := fun i hi => by
  rcases h.2 with ⟨_, h0⟩ | ⟨g, cap, cur, e, h3, h4, h5, h6, h7, h8⟩
  · omega
  · simp only [Value.slice.injEq] at e
    obtain ⟨rfl, -, -⟩ := e
    refine ⟨g, 0, rfl, ?_⟩
    rw [Nat.zero_add]
    refine blk_cells h4 ?_
    have h9 : (cur.toList.take (L.length * 1))[i]? = (L.map Value.bool)[i]? := by rw [h8]
    rw [List.getElem?_take_of_lt (by omega)] at h9
    simpa [hi] using h9
/-- What Asked answers. -/
def AskP (gd : Int) (B : Ins) (P : List Int) (w : World) (e : Ending) (w' : World) : Prop := Old w w' ∧ ((pyZ gd B P = 0 ∧ ∃ va vc ua uc, e = .returned (.tuple #[.slice va (wonL B (cosC gd B)).length vc, .slice ua (wiL (cosC gd B) B.length).length uc, .int .i64 0]) ∧ NumsC .i64 w' va (wonL B (cosC gd B)) ∧ BolC w' ua (wiL (cosC gd B) B.length)) ∨ (pyZ gd B P ≠ 0 ∧ e = .returned (.tuple #[.slice none 0 0, .slice none 0 0, .int .i64 (pyZ gd B P)])))

theorem own_formL {w : World} {B e : Nat} {v : Value} {n : Nat} {xs : List Value} (h : w.ownsRow B e 1 v n xs) : ∃ a c, v = .slice a n c := by
  rcases h.2 with ⟨rfl, h0⟩ | ⟨g, cap, cur, rfl, _⟩
  · exact ⟨none, 0, by rw [h0]⟩
  · exact ⟨_, _, rfl⟩
theorem pyZ_len {gd : Int} {B : Ins} {P : List Int} (hz : insZ gd B = 0) (h : P.length ≠ B.length) : pyZ gd B P = 2 := by
  unfold pyZ
  rw [if_neg (fun e => e hz), if_neg (fun e => h e.1)]
theorem pyZ_no {gd : Int} {B : Ins} {P : List Int} (hz : insZ gd B = 0) {k : Nat} (hk : k < B.length) (h : ¬ (0 ≤ P.getD k 0 ∧ P.getD k 0 ≤ (wonL B (cosC gd B)).getD k 0)) : pyZ gd B P = 2 := by
  unfold pyZ
  rw [if_neg (fun e => e hz), if_neg (fun e => by rw [paB_false hk h] at e; exact absurd e.2 (by decide))]
theorem pyZ_all {gd : Int} {B : Ins} {P : List Int} (hz : insZ gd B = 0) (hl : P.length = B.length) (h : paB (wonL B (cosC gd B)) P B.length = true) : pyZ gd B P = 0 := by
  unfold pyZ
  rw [if_neg (fun e => e hz), if_pos ⟨hl, h⟩]
theorem getL {P : List Int} {k : Nat} (hk : k < P.length) : P.getD k 0 = P[k] := by rw [List.getD_eq_getElem?_getD, List.getElem?_eq_getElem hk]; rfl

set_option maxRecDepth 100000 in
set_option maxHeartbeats 8000000 in
theorem rasked_any (gd : Int) (bo po : Option Addr) (cap pc : Nat) (B : Ins) (P : List Int) (w : World) (h : InsC w bo B) (hl : B.length ≤ 9223372036854775807) (hP : NumsC .i64 w po P) :
    Calls Tryz.prog 14 #[.agg #[.int .i64 gd, .slice bo B.length cap], .slice po P.length pc] w (AskP gd B P w) := by
  have o1 : Old w (w.alloc (.cells #[.int .i64 gd, .slice bo B.length cap] 24)) := (Old.refl w).alloc _
  have b1 := heap_new w (.cells #[.int .i64 gd, .slice bo B.length cap] 24)
  have x0 := blk_cells (i := 0) b1 rfl
  have x1 := blk_cells (i := 1) b1 rfl
  simp only [qqa, qqb, qqc] at x0 x1
  have ko := hid o1
  have kP := hid hP
  have klt := hid (ins_lt h)
  have kB := hid (rbids_any gd bo cap B _ (h.old o1) hl)
  clear o1 b1 h hP
  go_enter Tryz.func14, Tryz.ntmps14
  go_wp2_with fail
  generalize w.alloc (.cells #[.int .i64 gd, .slice bo B.length cap] 24) = w1 at *
  refine kB.out.mono ?_
  rintro e w2 ⟨o2, h2⟩
  have ko2 := hid (ko.out.trans o2)
  obtain ⟨hz, v, u, rfl, hv, hu⟩ | ⟨hz, rfl⟩ := h2
  · obtain ⟨va, vc, rfl⟩ := own_formL hv
    obtain ⟨ua, uc, rfl⟩ := own_formL hu
    have kn := hid ((NewL.own hv).nums)
    have kb := hid (own_bol hu)
    have khz := hid hz
    have klw := hid (won_len B (cosC gd B))
    have kfew := hid (win_of hz klt.out).few
    clear hv hu hz x0 x1 o2 kB
    by_cases hlen : P.length = B.length
    · have hlC : Hid (P.length = (wonL B (cosC gd B)).length) := hid (by rw [klw.out]; exact hlen)
      have hne : ((P.length : Int) != ((wonL B (cosC gd B)).length : Int)) = false := by simp [hlC.out]
      have khl := hid hlen
      have kno := hid (fun k (hk : k < B.length) h => pyZ_no (P := P) khz.out hk h)
      have kal := hid (fun h => pyZ_all (P := P) khz.out khl.out h)
      clear hlen
      have hP32 : P.length ≤ 32 := by have := khl.out; have := kfew.out; omega
      have kAP : Hid (AskP gd B P w = fun e w' => Old w w' ∧ ((pyZ gd B P = 0 ∧ ∃ va vc ua uc, e = .returned (.tuple #[.slice va (wonL B (cosC gd B)).length vc, .slice ua (wiL (cosC gd B) B.length).length uc, .int .i64 0]) ∧ NumsC .i64 w' va (wonL B (cosC gd B)) ∧ BolC w' ua (wiL (cosC gd B) B.length)) ∨ (pyZ gd B P ≠ 0 ∧ e = .returned (.tuple #[.slice none 0 0, .slice none 0 0, .int .i64 (pyZ gd B P)])))) := hid rfl
      generalize wonL B (cosC gd B) = C at *
      generalize wiL (cosC gd B) B.length = I at *
      go_wp2_with fail
      go_loopw [10] (fun t wr => ∃ k : Nat, k ≤ P.length ∧ t = .int .i64 (k : Int) ∧ Hid (Old w2 wr ∧ paB C P k = true)) (fun t _ => P.length - (intOf t).toNat)
      case atStart => exact ⟨0, Nat.zero_le _, rfl, hid ⟨Old.refl _, rfl⟩⟩
      case round =>
        obtain ⟨k, hk, rfl, hX⟩ := hrel
        have koX := hid hX.out.1
        have kpa := hid hX.out.2
        clear hX
        by_cases hlt : k < P.length
        · have hlt' : (k : Int) < (P.length : Int) := by omega
          have hkC : k < C.length := by have := hlC.out; omega
          have hkC' : (k : Int) < (C.length : Int) := by omega
          obtain ⟨pg, poo, hpo, p1⟩ := kP.out k hlt
          obtain ⟨cg, co, hco, c1⟩ := kn.out k hkC
          subst hpo
          subst hco
          have y1 := (ko2.out.trans koX.out).cell p1
          have y2 := koX.out.cell c1
          have ksu := hid (paB_succ C P k)
          have kn1 := hid (kno.out k (by have := khl.out; omega))
          rw [getL hlt, getL hkC] at ksu kn1
          clear p1 c1
          generalize P[k] = xp at *
          generalize C[k] = xc at *
          by_cases h0 : xp < 0
          · have kz : Hid (pyZ gd B P = 2) := hid (kn1.out (fun e => by omega))
            have hd : decide (xp < 0) = true := decide_eq_true h0
            clear kn1 ksu kal kno
            go_wp2_with fail
            go_quiet (fail)
            go_wp2_with fail
            refine bodyPost_ret (v := .tuple #[.slice none 0 0, .slice none 0 0, .int .i64 2]) (by simp [results, Tryz.f14, go_sem]) rfl ?_
            rw [kAP.out]
            exact ⟨(ko2.out.trans koX.out).drewN _, .inr ⟨by rw [kz.out]; decide, by rw [kz.out]⟩⟩
          · have hd : decide (xp < 0) = false := decide_eq_false h0
            by_cases h1 : xp > xc
            · have kz : Hid (pyZ gd B P = 2) := hid (kn1.out (fun e => by omega))
              have hd1 : decide (xp > xc) = true := decide_eq_true h1
              clear kn1 ksu kal kno
              go_wp2_with fail
              go_quiet (fail)
              go_wp2_with fail
              refine bodyPost_ret (v := .tuple #[.slice none 0 0, .slice none 0 0, .int .i64 2]) (by simp [results, Tryz.f14, go_sem]) rfl ?_
              rw [kAP.out]
              exact ⟨(ko2.out.trans koX.out).drewN _, .inr ⟨by rw [kz.out]; decide, by rw [kz.out]⟩⟩
            · have hd1 : decide (xp > xc) = false := decide_eq_false h1
              have ks2 : Hid (paB C P (k + 1) = true) := hid (by rw [ksu.out, kpa.out, decide_eq_true (show 0 ≤ xp by omega), decide_eq_true (show xp ≤ xc by omega)]; rfl)
              clear kn1 ksu kal kno
              go_wp2_with fail
              go_quiet (fail)
              go_wp2_with fail
              go_roundw
              case rel => exact ⟨k + 1, by omega, by go_num, hid ⟨koX.out.drewN _, ks2.out⟩⟩
              case measure => simp [intOf]; omega
        · obtain rfl : k = P.length := by omega
          have hlt' : ¬ (P.length : Int) < (P.length : Int) := by omega
          have kz : Hid (pyZ gd B P = 0) := hid (kal.out (by have := kpa.out; rw [khl.out] at this; exact this))
          clear kal kno
          go_wp2_with fail
          refine bodyPost_ret (v := .tuple #[.slice va C.length vc, .slice ua I.length uc, .int .i64 0]) (by simp [results, Tryz.f14, go_sem]) rfl ?_
          rw [kAP.out]
          exact ⟨ko2.out.trans koX.out, .inl ⟨kz.out, va, vc, ua, uc, rfl, kn.out.old koX.out, kb.out.old koX.out⟩⟩
    · have hlC : ¬ P.length = (wonL B (cosC gd B)).length := by rw [klw.out]; exact hlen
      have hne : ((P.length : Int) != ((wonL B (cosC gd B)).length : Int)) = true := by simp; omega
      have kz := hid (pyZ_len khz.out hlen)
      clear hlC hlen
      go_wp2_with fail
      refine bodyPost_ret (v := .tuple #[.slice none 0 0, .slice none 0 0, .int .i64 2]) (by simp [results, Tryz.f14, go_sem]) rfl ?_
      exact ⟨ko2.out, .inr ⟨by rw [kz.out]; decide, by rw [kz.out]⟩⟩
  · have hzb : (insZ gd B != 0) = true := by simpa using hz
    have kz : Hid (pyZ gd B P = insZ gd B) := hid (by unfold pyZ; rw [if_pos hz])
    have khz := hid hz
    clear hz x0 x1 kB o2
    go_wp2_with fail
    refine bodyPost_ret (v := .tuple #[.slice none 0 0, .slice none 0 0, .int .i64 (insZ gd B)]) (by simp [results, Tryz.f14, go_sem]) rfl ?_
    exact ⟨ko2.out, .inr ⟨by rw [kz.out]; exact khz.out, by rw [kz.out]⟩⟩
end Go.Proofs.YtfoadheepmgbfaaGreatDoor

/- The document's Least: walked. -/
namespace Go.Proofs.YtfoadheepmgbfaaGreatDoor
open Go.RowKit Go.Lib Go.Shelf
attribute [local go_sem] Oper.semAt_some

theorem wiL_get {c : List Int} {n i : Nat} (hi : i < (wiL c n).length) : (wiL c n)[i] = decide (0 ≤ c.getD i (-1)) := by simp [wiL]
/-- What is known of payments that may be. -/
theorem pay_k {gd : Int} {B : Ins} {P : List Int} (h : pyZ gd B P = 0) (hlt : ∀ l ∈ B, ∀ x ∈ l, x.1 < 4294967296) : insZ gd B = 0 ∧ PayB B (wonL B (cosC gd B)) P ∧ P.length = B.length ∧ B.length ≤ 32 := by
  obtain ⟨hz0, hle⟩ := pyZ_zero h
  refine ⟨hz0, payB_of hz0 hlt hle, ?_, (win_of hz0 hlt).few⟩
  have := hle.len
  rw [won_len] at this
  exact this.2

set_option maxRecDepth 100000 in
set_option maxHeartbeats 8000000 in
theorem rleast_all (gd : Int) (bo po : Option Addr) (cap pc : Nat) (B : Ins) (P : List Int) (j : Int) (w : World) (h : InsC w bo B) (hl : B.length ≤ 9223372036854775807) (hP : NumsC .i64 w po P) :
    Calls Tryz.prog 10 #[.agg #[.int .i64 gd, .slice bo B.length cap], .int .i64 j, .slice po P.length pc] w fun e w' => e = .returned (.tuple #[.int .i64 (lsV gd B P j).1, .int .i64 (lsV gd B P j).2]) ∧ Old w w' := by
  have o1 : Old w (w.alloc (.cells #[.int .i64 gd, .slice bo B.length cap] 24)) := (Old.refl w).alloc _
  have b1 := heap_new w (.cells #[.int .i64 gd, .slice bo B.length cap] 24)
  have x0 := blk_cells (i := 0) b1 rfl
  have x1 := blk_cells (i := 1) b1 rfl
  simp only [qqa, qqb, qqc] at x0 x1
  have ko := hid o1
  have kh := hid h
  have kP := hid hP
  have klt := hid (ins_lt h)
  have kB := hid (rasked_any gd bo po cap pc B P _ (h.old o1) hl (hP.old o1))
  clear o1 b1 h hP
  go_enter Tryz.func10, Tryz.ntmps10
  go_wp2_with fail
  generalize w.alloc (.cells #[.int .i64 gd, .slice bo B.length cap] 24) = w1 at *
  refine kB.out.mono ?_
  rintro e w2 ⟨o2, h2⟩
  have x0 := o2.cell x0
  have x1 := o2.cell x1
  have ko2 := hid (ko.out.trans o2)
  obtain ⟨hz, va, vc, ua, uc, rfl, hn, hb⟩ | ⟨hz, rfl⟩ := h2
  · obtain ⟨hz0, hpb, hlen', hfew⟩ := pay_k hz klt.out
    have hlen := hid hlen'
    clear hlen'
    have khz := hid hz
    have kl := hid (fun i hi => rleast_any gd bo va po cap vc pc B (wonL B (cosC gd B)) P i hi w2 ⟨kh.out.old ko2.out, hn, kP.out.old ko2.out⟩ hpb hz0)
    have kb := hid hb
    have kiL := hid (wiL_len (cosC gd B) B.length)
    have kig := hid (fun i (hi : i < (wiL (cosC gd B) B.length).length) => wiL_get hi)
    have kyes := hid (fun i (hi : i < P.length) hw => lsV_yes (B := B) khz.out hi hw)
    have kno := hid (fun hn => lsV_no (B := B) (P := P) (j := j) khz.out hn)
    clear hz hz0 hpb o2 kB hn hb
    generalize wonL B (cosC gd B) = C at *
    generalize wiL (cosC gd B) B.length = I at *
    by_cases hj : 0 ≤ j ∧ j < (P.length : Int)
    · obtain ⟨i, rfl⟩ : ∃ i : Nat, j = (i : Int) := ⟨j.toNat, by omega⟩
      have hi' : (i : Int) < (P.length : Int) := hj.2
      have hiP : i < P.length := by omega
      have hiB : i < B.length := by have := hlen.out; omega
      have hiI : i < I.length := by rw [kiL.out]; exact hiB
      have hiI' : (i : Int) < (I.length : Int) := by omega
      have hi0 : ¬ (i : Int) < 0 := by omega
      have hig : ¬ (i : Int) ≥ (P.length : Int) := by omega
      have hd0 : decide ((i : Int) < 0) = false := decide_eq_false hi0
      have hd1 : decide ((i : Int) ≥ (P.length : Int)) = false := decide_eq_false hig
      obtain ⟨ig, io, rfl, c1⟩ := kb.out i hiI
      rw [kig.out i hiI] at c1
      have kli := hid (kl.out i hiB)
      by_cases hw : 0 ≤ (cosC gd B).getD i (-1)
      · have kls := hid (kyes.out i hiP hw)
        rw [decide_eq_true hw] at c1
        clear hj hw kl kno kyes kig kb
        go_wp2_with fail
        refine kli.out.mono ?_
        rintro e w4 ⟨rfl, o4⟩
        have ko4 := hid (ko2.out.trans o4)
        go_wp2_with fail
        go_ret2
        exact ⟨by rw [kls.out]; rfl, ko4.out⟩
      · have kls := hid (kno.out (fun e => hw (by simpa using e.2.2)))
        have hwb : decide (0 ≤ (cosC gd B).getD i (-1)) = false := decide_eq_false hw
        rw [hwb] at c1
        clear hj hw hwb kl kli kno kyes kig kb
        go_wp2_with fail
        go_ret2
        exact ⟨by rw [kls.out]; rfl, ko2.out⟩
    · have kls := hid (kno.out (fun e => hj ⟨e.1, e.2.1⟩))
      by_cases hj0 : j < 0
      · have hd0 : decide (j < 0) = true := decide_eq_true hj0
        clear hj kl kno kyes kig kb
        go_wp2_with fail
        go_ret2
        exact ⟨by rw [kls.out]; rfl, ko2.out⟩
      · have hjg : j ≥ (P.length : Int) := by omega
        have hd0 : decide (j < 0) = false := decide_eq_false hj0
        have hd1 : decide (j ≥ (P.length : Int)) = true := decide_eq_true hjg
        clear hj kl kno kyes kig kb
        go_wp2_with fail
        go_ret2
        exact ⟨by rw [kls.out]; rfl, ko2.out⟩
  · have kls := hid (lsV_bad j hz)
    have hzb : (pyZ gd B P != 0) = true := by simpa using hz
    clear hz kB o2
    go_wp2_with fail
    go_ret2
    exact ⟨by rw [kls.out]; rfl, ko2.out⟩
end Go.Proofs.YtfoadheepmgbfaaGreatDoor
