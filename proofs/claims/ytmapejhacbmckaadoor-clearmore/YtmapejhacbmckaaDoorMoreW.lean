/- ClearMore, walked. -/
import Derived.Test.YtmapejhacbmckaaDoorJ22
import Derived.BigQuiet
namespace Go.Proofs.YtmapejhacbmckaaDoor
open Go.RowKit Go.Lib Go.Shelf
attribute [local go_sem] Oper.semAt_some




theorem own_form5 {w : World} {B : Nat} {v : Value} {n : Nat} {xs : List Value} (h : w.ownsRow B 55 1 v n xs) : ∃ a n' c, v = .slice a n' c := by
  rcases h.2 with ⟨rfl, h0⟩ | ⟨g, cap, cur, rfl, _⟩
  · exact ⟨none, 0, 0, rfl⟩
  · exact ⟨_, _, _, rfl⟩

set_option maxRecDepth 100000 in
set_option maxHeartbeats 16000000 in
theorem more_walk (gd : Int) (bo : Option Addr) (cap : Nat) (B : Ins) (z : Int) (og : Nat) (oc : Int) (hog : og < 4294967296) (w : World) (h : InsC w bo B) (hV : InsV w bo B) (hcap : B.length ≤ cap) (hl : B.length ≤ 9223372036854775807) (hT : Tabs w) :
    Calls Tryd.prog 8 #[.agg #[.int .i64 gd, .slice bo B.length cap], .int .i64 z, .agg #[.int .u32 (og : Int), .int .i64 oc]] w fun e w' => e = .returned (.bool true) ∧ Old w w' := by
  have o1 : Old w (w.alloc (.cells #[.int .i64 gd, .slice bo B.length cap] 24)) := (Old.refl w).alloc _
  have b1 := heap_new w (.cells #[.int .i64 gd, .slice bo B.length cap] 24)
  have z1 := alloc_size w (.cells #[.int .i64 gd, .slice bo B.length cap] 24)
  have oR : Old (w.alloc (.cells #[.int .i64 gd, .slice bo B.length cap] 24)) ((w.alloc (.cells #[.int .i64 gd, .slice bo B.length cap] 24)).alloc (.cells #[.int .u32 (og : Int), .int .i64 oc] 57)) := (Old.refl _).alloc _
  have bR := heap_new (w.alloc (.cells #[.int .i64 gd, .slice bo B.length cap] 24)) (.cells #[.int .u32 (og : Int), .int .i64 oc] 57)
  rw [z1] at bR
  have b1 := (oR.block _ (blk_lt b1) (fun h => h)).trans b1
  have x0 := blk_cells (i := 0) b1 rfl
  have x1 := blk_cells (i := 1) b1 rfl
  have p0 := blk_cells (i := 0) bR rfl
  have p1 := blk_cells (i := 1) bR rfl
  simp only [List.getElem_toArray, List.getElem_cons_zero, List.getElem_cons_succ] at x0 x1 p0 p1
  have kh := hid h
  have kV := hid hV
  have kT := hid hT
  have ko := hid (o1.trans oR)
  have kL := hid (larg_any gd bo cap B _ (h.old ko.out))
  clear o1 oR b1 bR h hV hT z1
  go_enter Tryd.func8, Tryd.ntmps8
  go_wp2_with fail
  generalize (w.alloc (.cells #[.int .i64 gd, .slice bo B.length cap] 24)).alloc (.cells #[.int .u32 (og : Int), .int .i64 oc] 57) = w1 at *
  obtain ⟨s, hs⟩ : ∃ s, w.heap.size = s := ⟨_, rfl⟩
  have kss := hid hs
  rw [hs] at x0 x1 p0 p1 ⊢
  clear hs
  refine kL.out.mono ?_
  rintro e w2 ⟨b, rfl, o2, hb⟩
  have x0 := o2.cell x0
  have x1 := o2.cell x1
  have p0 := o2.cell p0
  have p1 := o2.cell p1
  have ko2 := hid (ko.out.trans o2)
  clear o2 ko kL
  cases b with
  | true =>
    go_wp2_with fail
    have koK := ko2
    refine (known_any _ (kT.out.old koK.out)).mono ?_
    rintro e w9 ⟨rfl, o9⟩
    have ko9 := hid (koK.out.trans o9)
    clear o9
    go_wp2_with fail
    go_ret
    exact ⟨rfl, ko9.out⟩
  | false =>
    obtain ⟨h40, h20⟩ := hb rfl
    clear hb h20
    go_wp2_with fail
    refine (w_any gd bo cap B w2 (kh.out.old ko2.out) hcap hl (kT.out.old ko2.out)).mono ?_
    rintro e w3 ⟨rfl, o3⟩
    have x0 := o3.cell x0
    have x1 := o3.cell x1
    have p0 := o3.cell p0
    have p1 := o3.cell p1
    have ko3 := hid (ko2.out.trans o3)
    clear o3 ko2
    by_cases hck : ckZ gd B 0 (allZ gd).1 = 0
    · have hz := (ck_ok (all_lt gd) hck).1
      have tp := tops_of hz (ins_lt kh.out)
      rw [hck, tp.fr]
      obtain ⟨m, rfl, hm1, hm10, hall⟩ := tp.m
      have khz := hid hz
      have klt := hid (ins_lt kh.out)
      have k8 := hid tp.eight
      have kco := hid tp.coins
      have h32 := tp.len
      have kall := hid hall
      clear hck hz tp hall
      obtain ⟨bz, hbz⟩ : ∃ bz, best B (allZ (m : Int)).1 = bz := ⟨_, rfl⟩
      have kbz := hid hbz
      rw [hbz]
      clear hbz
      by_cases hn0 : B.length = 0
      · have hn0' : ((B.length : Int) == 0) = true := by simp [hn0]
        go_wp2_with fail
        have koK := ko3
        refine (known_any _ (kT.out.old koK.out)).mono ?_
        rintro e w9 ⟨rfl, o9⟩
        have ko9 := hid (koK.out.trans o9)
        clear o9
        go_wp2_with fail
        go_ret
        exact ⟨rfl, ko9.out⟩
      · have hn0' : ((B.length : Int) == 0) = false := by simp [hn0]
        have hnp : ¬ (B.length : Int) = 0 := by omega
        obtain ⟨r1, hr1⟩ : ∃ r1, Int.tmod z (B.length : Int) = r1 := ⟨_, rfl⟩
        have hb1 := tmod_in (z := z) (n := B.length) (by omega)
        rw [hr1] at hb1
        obtain ⟨kk, hkk, hkl⟩ := tmod_up (n := B.length) (by omega) hb1
        go_upto_region 6 with fail
        go_quiet (fail)
        rename Nat => nq
        have od : Old w3 (w3.drewN nq) := (Old.refl w3).drewN _
        have x0 := od.cell x0
        have x1 := od.cell x1
        have p0 := od.cell p0
        have p1 := od.cell p1
        have ko4 := hid (ko3.out.trans od)
        clear od ko3
        have hw : wrap64 (r1 + (B.length : Int)) = r1 + (B.length : Int) := by unfold wrap64; omega
        generalize w3.drewN nq = w4 at *
        have q5 : Old w4 (w4.alloc (.cells #[.int .i64 (m : Int), .slice none 0 0] 24)) := (Old.refl w4).alloc _
        have b5 := heap_new w4 (.cells #[.int .i64 (m : Int), .slice none 0 0] 24)
        have z5 := alloc_size w4 (.cells #[.int .i64 (m : Int), .slice none 0 0] 24)
        have q6 : Old (w4.alloc (.cells #[.int .i64 (m : Int), .slice none 0 0] 24)) ((w4.alloc (.cells #[.int .i64 (m : Int), .slice none 0 0] 24)).alloc (.cells #[.int .i64 (m : Int), .slice none 0 0] 24)) := (Old.refl _).alloc _
        have b6 := heap_new (w4.alloc (.cells #[.int .i64 (m : Int), .slice none 0 0] 24)) (.cells #[.int .i64 (m : Int), .slice none 0 0] 24)
        have x05 := q5.cell x0
        obtain ⟨tb, htb⟩ : ∃ tb, w4.heap.size = tb := ⟨_, rfl⟩
        rw [htb] at b5 z5
        rw [z5] at b6
        have b5 := (q6.block tb (blk_lt b5) (fun h => h)).trans b5
        have oo := q5.trans q6
        have y1 := oo.cell x1
        have kx0 := hid (oo.cell x0)
        have kx1 := hid (oo.cell x1)
        have kp0 := hid (oo.cell p0)
        have kp1 := hid (oo.cell p1)
        have ko6 := hid (ko4.out.trans oo)
        have kst : Hid (s + 1 < tb) := by have := World.block_lt_of_cell? _ _ p0; dsimp only at this; show _ < _; omega
        have kb5 := hid b5
        have kb6 := hid b6
        have hz6 := alloc_size (w4.alloc (.cells #[.int .i64 (m : Int), .slice none 0 0] 24)) (.cells #[.int .i64 (m : Int), .slice none 0 0] 24)
        rw [z5] at hz6
        have kz6 := hid hz6
        clear hz6
        clear q5 b5 z5 q6 b6 oo ko4
        go_wp2_with fail
        generalize (w4.alloc (.cells #[.int .i64 (m : Int), .slice none 0 0] 24)).alloc (.cells #[.int .i64 (m : Int), .slice none 0 0] 24) = wS at *
        clear y1 x0 x1 p0 p1 x05
        try rw [htb]
        clear htb
        have hB0 : Hid (BI wS.heap.size wS tb (m : Int) (.slice none 0 0) (turnI (B.drop B.length)) ∧ Frm (fun q => q = tb) wS wS) := by
          refine ⟨⟨kb5.out, [], ?_, fun i hi => ?_⟩, Frm.refl _ _⟩
          · rw [List.drop_length]
            exact ⟨rfl, Or.inl ⟨rfl, rfl⟩⟩
          · rw [List.drop_length] at hi
            exact absurd hi (Nat.not_lt_zero i)
        go_loopw [12] (fun t12 wr => ∃ (K : Nat) (va : Option Addr) (vn vc : Nat), K ≤ B.length ∧ t12 = .int .i64 ((K : Int) - 1) ∧ Hid (BI wS.heap.size wr tb (m : Int) (.slice va vn vc) (turnI (B.drop K)) ∧ Frm (fun q => q = tb) wS wr)) (fun t12 _ => (intOf t12 + 1).toNat)
        case atStart => exact ⟨B.length, none, 0, 0, Nat.le_refl _, rfl, hB0⟩
        case round =>
          clear hB0
          obtain ⟨K, va, vn, vc, hK, rfl, hR⟩ := hrel
          cases K with
          | zero =>
            have hg : ¬ (((0 : Nat) : Int) - 1 ≥ 0) := by omega
            rw [List.drop_zero] at hR
            have hst := kst.out
            have koT : Hid (Old w wr) := Frm.trans ko6.out hR.out.2 (fun i hi e => by have := kss.out; omega)
            have x1 := frm_cell hR.out.2 kx1.out (by dsimp only; omega)
            have kx0T := hid (frm_cell hR.out.2 kx0.out (by dsimp only; omega))
            have kx1T := hid (frm_cell hR.out.2 kx1.out (by dsimp only; omega))
            have kp0T := hid (frm_cell hR.out.2 kp0.out (by dsimp only; omega))
            have kp1T := hid (frm_cell hR.out.2 kp1.out (by dsimp only; omega))
            have kb6T := hid ((hR.out.2.block _ (blk_lt kb6.out) (by omega)).trans kb6.out)
            have kBT := hid hR.out.1
            clear hst hR
            go_wp2_with fail
            clear x1
            rename World => wT
            have hM0 : Hid (BI wT.heap.size wT (tb + 1) (m : Int) (.slice none 0 0) ((moreI B kk (og, oc)).take 0) ∧ Frm (fun q => q = tb + 1) wT wT) := by
              refine ⟨⟨kb6T.out, [], ?_, fun i hi => ?_⟩, Frm.refl _ _⟩
              · rw [List.take_zero]
                exact ⟨rfl, Or.inl ⟨rfl, rfl⟩⟩
              · rw [List.take_zero] at hi
                exact absurd hi (Nat.not_lt_zero i)
            go_loopw [16] (fun t16 wr => ∃ (i : Nat) (va : Option Addr) (vn vc : Nat), i ≤ B.length ∧ t16 = .int .i64 (i : Int) ∧ Hid (BI wT.heap.size wr (tb + 1) (m : Int) (.slice va vn vc) ((moreI B kk (og, oc)).take i) ∧ Frm (fun q => q = tb + 1) wT wr)) (fun t16 _ => B.length - (intOf t16).toNat)
            case atStart => exact ⟨0, none, 0, 0, Nat.zero_le _, rfl, hM0⟩
            case round =>
              clear hM0
              obtain ⟨i, va, vn, vc, hi, rfl, hR⟩ := hrel
              have hst := kst.out
              have hsw := kss.out
              have x1 := frm_cell hR.out.2 kx1T.out (by dsimp only; omega)
              by_cases hlt : i < B.length
              · have hlt' : (i : Int) < (B.length : Int) := by omega
                obtain ⟨VV, hVV, hRow, hSl⟩ := kV.out
                obtain ⟨g, o, rfl, j1, -⟩ := hRow i (by omega)
                obtain ⟨a0, c0, hv0, hO0, hn0⟩ := hSl i hlt
                have e8 : VV[i]'(by omega) = VV.getD i nilS := by rw [List.getD_eq_getElem?_getD, List.getElem?_eq_getElem (by omega)]; rfl
                rw [e8, hv0] at j1
                rw [getD_get hlt] at j1 hO0
                have hgw := World.block_lt_of_cell? _ _ j1
                have kcl : Hid (∀ p v, w.cell? p = some v → ∀ X, Old wr X → X.cell? p = some v) := fun p v hv X oX => by
                  have h1 := World.block_lt_of_cell? _ _ hv
                  exact oX.cell (frm_cell hR.out.2 (koT.out.cell hv) (by omega))
                have i3 := kcl.out _ _ j1 wr (Old.refl _)
                have hOr : OffC wr a0 B[i] := fun j hj => by
                  obtain ⟨g', o', f1, f2, f3⟩ := hO0 j hj
                  exact ⟨g', o', f1, kcl.out _ _ f2 wr (Old.refl _), kcl.out _ _ f3 wr (Old.refl _)⟩
                have hL8 := k8.out _ (List.getElem_mem hlt)
                have hmt : Hid ((moreI B kk (og, oc)).take (i + 1) = (moreI B kk (og, oc)).take i ++ [if i = kk then B[i] ++ [(og, oc)] else B[i]]) := by
                  show _ = _
                  rw [List.take_succ_eq_append_getElem (by rw [more_len]; exact hlt), more_at hlt]
                have hQl : Hid (((moreI B kk (og, oc)).take i).length ≤ 40) := by show _ ≤ _; rw [List.length_take, more_len]; omega
                obtain ⟨TQ, hTQ⟩ : ∃ TQ, (moreI B kk (og, oc)).take i = TQ := ⟨_, rfl⟩
                rw [hTQ] at hmt hQl hR
                clear hTQ hRow hSl hv0 e8 j1 hgw hO0
                have ow0 : wr.ownsRow wr.heap.size 57 2 (.slice none 0 0) ([] : List Off).length (flatO []) := ⟨rfl, Or.inl ⟨rfl, rfl⟩⟩
                obtain ⟨RB, hRB⟩ : ∃ RB, B[i] = RB := ⟨_, rfl⟩
                rw [hRB] at hOr hL8 hmt i3
                clear hRB hst hsw
                go_wp2_with (at_builtin; refine wpAppO (by rfl) _ _ (by rfl) wr.heap.size (.slice none 0 0) a0 c0 [] RB (by rfl) (by rfl) ow0 hOr hn0 (by simp; omega) (Nat.le_refl _) ?_)
                intro v6 w6 ow6 gr6
                try rw [List.nil_append] at ow6
                have o6 : Old wr w6 := grown_own (Old.refl wr) ow0 gr6
                have kow6 : Hid (w6.ownsRow wr.heap.size 57 2 v6 RB.length (flatO RB)) := hid (by simpa using ow6)
                have ko66 := hid o6
                clear ow6 gr6 ow0 hOr o6 i3 x1
                by_cases hik : i = kk
                · have hik' : ((i : Int) == (kk : Int)) = true := by simp [hik]
                  rw [if_pos hik] at hmt
                  have hst := kst.out
                  have p0 := ko66.out.cell (frm_cell hR.out.2 kp0T.out (by dsimp only; omega))
                  have p1 := ko66.out.cell (frm_cell hR.out.2 kp1T.out (by dsimp only; omega))
                  have o7 : Old w6 (w6.alloc (.cells #[.int .u32 (og : Int), .int .i64 oc] 57)) := (Old.refl w6).alloc _
                  have hO7 : OffC (w6.alloc (.cells #[.int .u32 (og : Int), .int .i64 oc] 57)) (some ⟨w6.heap.size, 0, none⟩) [(og, oc)] := off_blk (L := [(og, oc)]) (heap_new w6 (.cells #[.int .u32 (og : Int), .int .i64 oc] 57))
                  have ow7 : (w6.alloc (.cells #[.int .u32 (og : Int), .int .i64 oc] 57)).ownsRow wr.heap.size 57 2 v6 RB.length (flatO RB) := own_old2 kow6.out o7
                  have kq7 := hid (ko66.out.trans o7)
                  have hsz := kq7.out.size
                  clear o7 hik hst
                  go_wp2_with (at_builtin; refine wpAppO (by rfl) _ _ (by rfl) wr.heap.size v6 (some ⟨w6.heap.size, 0, none⟩) 1 RB [(og, oc)] (by rfl) (by rfl) ow7 hO7 (fun h => by cases h) (by simp; omega) hsz ?_)
                  generalize w6.alloc (.cells #[.int .u32 (og : Int), .int .i64 oc] 57) = w7 at *
                  intro v8 w8 ow8 gr8
                  have hlo : w8.ownsRow wr.heap.size 57 2 v8 (RB ++ [(og, oc)]).length (flatO (RB ++ [(og, oc)])) := by rw [List.length_append]; exact ow8
                  have o8 := grown_own kq7.out ow7 gr8
                  obtain ⟨RC, hRC⟩ : ∃ RC, RB ++ [(og, oc)] = RC := ⟨_, rfl⟩
                  rw [hRC] at hlo hmt
                  have hBI := hR.out.1.old o8
                  have hFS : Hid (Frm (fun q => q = tb + 1) wT w8) := Frm.trans hR.out.2 o8 (fun _ _ h => h.elim)
                  have hNw : wT.heap.size ≤ wr.heap.size := hR.out.2.size
                  have hwi := o8.size
                  clear ow8 gr8 ow7 hO7 hRC o8 p0 p1
                  obtain ⟨la, lc, hlf, -, -⟩ := own_off hlo
                  subst hlf
                  have q4 : Old w8 (w8.alloc (.cells #[.slice la RC.length lc] 55)) := (Old.refl w8).alloc _
                  have hO4 : (w8.alloc (.cells #[.slice la RC.length lc] 55)).cell? ⟨w8.heap.size, 0, none⟩ = some (.slice la RC.length lc) := blk_cell (heap_new w8 (.cells #[.slice la RC.length lc] 55))
                  have y1 := blk_cells (i := 1) hBI.y rfl
                  simp only [List.getElem_toArray, List.getElem_cons_zero, List.getElem_cons_succ] at y1
                  have hB4 := hBI.old q4
                  obtain ⟨V, hV4, hVL4⟩ := hB4.row
                  have hl4 := own_old2 (ownLow hlo (show wT.heap.size ≤ _ from hNw)) q4
                  have hVn := own_len hV4
                  have kB4 := hid hB4
                  have kV4 := hid hV4
                  have kVL4 := hid hVL4
                  have kl4 := hid hl4
                  have kq4 := hid q4
                  have hNs : wT.heap.size ≤ (w8.alloc (.cells #[.slice la RC.length lc] 55)).heap.size := by have := q4.size; omega
                  clear q4 hVL4 hB4 hl4 hBI hlo
                  go_wp2_with (at_builtin; refine wpAppR (by rfl) _ _ (by rfl) wT.heap.size (.slice va vn vc) w8.heap.size V (.slice la RC.length lc) TQ.length hVn (by rfl) (by rfl) hV4 hO4 (by simp [Value.oneCell']) (by have := hQl.out; omega) hNs ?_)
                  generalize w8.alloc (.cells #[.slice la RC.length lc] 55) = w4' at *
                  intro v5 w5 ow5 gr5
                  have hf5 : Frm (fun q => (Value.slice va vn vc).ownBlock = some q) w4' w5 := Frm.grown (Frm.refl _ _) gr5 (fun q hq => Or.inr hq)
                  obtain ⟨va5, vn5, vc5, rfl⟩ := own_form5 ow5
                  have kN5 := hid (kB4.out.next kV4.out kVL4.out hf5 ow5 kl4.out)
                  have hy5 : w5.heap[(tb + 1)]? = some (.cells #[.int .i64 (m : Int), .slice va vn vc] 24 (0, 0)) := (hf5.block _ (blk_lt kB4.out.y) (fun e => by obtain ⟨cur', hc'⟩ := owns_block kV4.out e; exact typ_ne kB4.out.y hc' (by decide) rfl)).trans kB4.out.y
                  have y5 := blk_cells (i := 1) hy5 rfl
                  have y6 := blk_fz hy5 1
                  simp only [List.getElem_toArray, List.getElem_cons_zero, List.getElem_cons_succ] at y5
                  have kF5 : Hid (Frm (fun q => q = (tb + 1)) wT (w5.setCell ⟨(tb + 1), 1, none⟩ (.slice va5 vn5 vc5))) := by
                    have f1 : Frm (fun q => q = (tb + 1) ∨ wT.heap.size ≤ q) w8 w5 := Frm.trans (Frm.mono kq4.out (fun _ _ h => h.elim)) hf5 (fun q hq e => by
                      rcases kV4.out.2 with ⟨e2, _⟩ | ⟨q', c, cur, e2, h3, _⟩
                      · rw [e2] at e; simp [Value.ownBlock] at e
                      · rw [e2] at e
                        simp [Value.ownBlock] at e
                        exact .inr (by omega))
                    exact Frm.trans (Frm.trans hFS.out f1 (fun q hq e => by omega)) (frm_set w5 (tb + 1) 1 _) (fun q _ e => e)
                  clear ow5 gr5 hf5 hy5 hV4 hVn hO4
                  have kN6 : Hid (BI wT.heap.size (w5.setCell ⟨tb + 1, 1, none⟩ (.slice va5 vn5 vc5)) (tb + 1) (m : Int) (.slice va5 vn5 vc5) ((moreI B kk (og, oc)).take (i + 1)) ∧ Frm (fun q => q = tb + 1) wT (w5.setCell ⟨tb + 1, 1, none⟩ (.slice va5 vn5 vc5))) := ⟨by rw [hmt.out]; exact kN5.out, kF5.out⟩
                  go_wp2_with fail
                  go_roundw
                  case rel => exact ⟨i + 1, _, _, _, by omega, by go_num, kN6⟩
                  case measure => simp [intOf]; omega
                · have hik' : ((i : Int) == (kk : Int)) = false := by simp; omega
                  rw [if_neg hik] at hmt
                  have hlo := kow6.out
                  have hBI := hR.out.1.old ko66.out
                  have hFS : Hid (Frm (fun q => q = tb + 1) wT w6) := Frm.trans hR.out.2 ko66.out (fun _ _ h => h.elim)
                  have hNw : wT.heap.size ≤ wr.heap.size := hR.out.2.size
                  have hwi := ko66.out.size
                  obtain ⟨la, lc, hlf, -, -⟩ := own_off hlo
                  subst hlf
                  have q4 : Old w6 (w6.alloc (.cells #[.slice la RB.length lc] 55)) := (Old.refl w6).alloc _
                  have hO4 : (w6.alloc (.cells #[.slice la RB.length lc] 55)).cell? ⟨w6.heap.size, 0, none⟩ = some (.slice la RB.length lc) := blk_cell (heap_new w6 (.cells #[.slice la RB.length lc] 55))
                  have y1 := blk_cells (i := 1) hBI.y rfl
                  simp only [List.getElem_toArray, List.getElem_cons_zero, List.getElem_cons_succ] at y1
                  have hB4 := hBI.old q4
                  obtain ⟨V, hV4, hVL4⟩ := hB4.row
                  have hl4 := own_old2 (ownLow hlo (show wT.heap.size ≤ _ from hNw)) q4
                  have hVn := own_len hV4
                  have kB4 := hid hB4
                  have kV4 := hid hV4
                  have kVL4 := hid hVL4
                  have kl4 := hid hl4
                  have kq4 := hid q4
                  have hNs : wT.heap.size ≤ (w6.alloc (.cells #[.slice la RB.length lc] 55)).heap.size := by have := q4.size; omega
                  clear q4 hVL4 hB4 hl4 hBI hlo
                  go_wp2_with (at_builtin; refine wpAppR (by rfl) _ _ (by rfl) wT.heap.size (.slice va vn vc) w6.heap.size V (.slice la RB.length lc) TQ.length hVn (by rfl) (by rfl) hV4 hO4 (by simp [Value.oneCell']) (by have := hQl.out; omega) hNs ?_)
                  generalize w6.alloc (.cells #[.slice la RB.length lc] 55) = w4' at *
                  intro v5 w5 ow5 gr5
                  have hf5 : Frm (fun q => (Value.slice va vn vc).ownBlock = some q) w4' w5 := Frm.grown (Frm.refl _ _) gr5 (fun q hq => Or.inr hq)
                  obtain ⟨va5, vn5, vc5, rfl⟩ := own_form5 ow5
                  have kN5 := hid (kB4.out.next kV4.out kVL4.out hf5 ow5 kl4.out)
                  have hy5 : w5.heap[(tb + 1)]? = some (.cells #[.int .i64 (m : Int), .slice va vn vc] 24 (0, 0)) := (hf5.block _ (blk_lt kB4.out.y) (fun e => by obtain ⟨cur', hc'⟩ := owns_block kV4.out e; exact typ_ne kB4.out.y hc' (by decide) rfl)).trans kB4.out.y
                  have y5 := blk_cells (i := 1) hy5 rfl
                  have y6 := blk_fz hy5 1
                  simp only [List.getElem_toArray, List.getElem_cons_zero, List.getElem_cons_succ] at y5
                  have kF5 : Hid (Frm (fun q => q = (tb + 1)) wT (w5.setCell ⟨(tb + 1), 1, none⟩ (.slice va5 vn5 vc5))) := by
                    have f1 : Frm (fun q => q = (tb + 1) ∨ wT.heap.size ≤ q) w6 w5 := Frm.trans (Frm.mono kq4.out (fun _ _ h => h.elim)) hf5 (fun q hq e => by
                      rcases kV4.out.2 with ⟨e2, _⟩ | ⟨q', c, cur, e2, h3, _⟩
                      · rw [e2] at e; simp [Value.ownBlock] at e
                      · rw [e2] at e
                        simp [Value.ownBlock] at e
                        exact .inr (by omega))
                    exact Frm.trans (Frm.trans hFS.out f1 (fun q hq e => by omega)) (frm_set w5 (tb + 1) 1 _) (fun q _ e => e)
                  clear ow5 gr5 hf5 hy5 hV4 hVn hO4
                  have kN6 : Hid (BI wT.heap.size (w5.setCell ⟨tb + 1, 1, none⟩ (.slice va5 vn5 vc5)) (tb + 1) (m : Int) (.slice va5 vn5 vc5) ((moreI B kk (og, oc)).take (i + 1)) ∧ Frm (fun q => q = tb + 1) wT (w5.setCell ⟨tb + 1, 1, none⟩ (.slice va5 vn5 vc5))) := ⟨by rw [hmt.out]; exact kN5.out, kF5.out⟩
                  go_wp2_with fail
                  go_roundw
                  case rel => exact ⟨i + 1, _, _, _, by omega, by go_num, kN6⟩
                  case measure => simp [intOf]; omega
              · obtain rfl : i = B.length := by omega
                have hlt' : ¬ (B.length : Int) < (B.length : Int) := by omega
                rw [show (moreI B kk (og, oc)).take B.length = moreI B kk (og, oc) by rw [← more_len B kk (og, oc)]; exact List.take_length] at hR
                have hBT := kBT.out.box hR.out.2 kb6T.out (by omega)
                have koX : Hid (Old w wr) := Frm.trans koT.out hR.out.2 (fun i hi e => by omega)
                have kx0 := hid (frm_cell hR.out.2 kx0T.out (by dsimp only; omega))
                have kx1 := hid x1
                have hkB : kk < B.length := hkl
                have hkB' : (kk : Int) < (B.length : Int) := by omega
                have kBM := hid hR.out.1
                have kBT2 := hid hBT
                obtain ⟨g, o, a0, c0, rfl, i1, i2, -, -⟩ := kh.out kk hkB
                have i3 := koX.out.cell i1
                have hL8 := k8.out _ (List.getElem_mem hkB)
                clear hBT hR hst hsw
                go_wp2_with fail
                rename World => wX
                go_loopw [15, 18] (fun t15 t18 wq => ∃ (j : Nat) (mz : Int), j ≤ B[kk].length ∧ t15 = .int .i64 mz ∧ t18 = .int .i64 (j : Int) ∧ 0 ≤ mz ∧ mz ≤ 1099511627776 ∧ Hid (∀ x ∈ B[kk].take j, x.2 ≤ mz) ∧ wq = wX) (fun _ t18 _ => B[kk].length - (intOf t18).toNat)
                case atStart => exact ⟨0, 0, Nat.zero_le _, rfl, rfl, by omega, by omega, hid (fun x hx => by simp at hx), by trivial⟩
                case round =>
                  obtain ⟨j, mz, hj, rfl, rfl, hm0, hm1', hmx, hwr⟩ := hrel
                  obtain rfl := hwr.symm
                  by_cases hjl : j < B[kk].length
                  · have hjl' : (j : Int) < (B[kk].length : Int) := by omega
                    obtain ⟨og', oo, rfl, q1, q2⟩ := i2 j hjl
                    have q4 := koX.out.cell q2
                    have hxc := kco.out _ (List.getElem_mem hkB) _ (List.getElem_mem hjl)
                    have hnx : Hid (∀ z', mz ≤ z' → B[kk][j].2 ≤ z' → ∀ x ∈ B[kk].take (j + 1), x.2 ≤ z') := fun z' e1 e2 x hx => by
                      rw [List.take_succ_eq_append_getElem hjl, List.mem_append] at hx
                      rcases hx with hx | hx
                      · have := hmx.out x hx
                        omega
                      · obtain rfl : x = B[kk][j] := by simpa using hx
                        exact e2
                    generalize B[kk][j].2 = xc at *
                    clear q1 q2
                    go_wp2_with fail
                    go_roundw
                    case rel => exact ⟨j + 1, _, by omega, rfl, by go_num, by split <;> omega, by split <;> omega, hid (hnx.out _ (by split <;> omega) (by split <;> omega)), by trivial⟩
                    case measure => simp [intOf]; omega
                  · obtain rfl : j = B[kk].length := by omega
                    have hjl' : ¬ (B[kk].length : Int) < (B[kk].length : Int) := by omega
                    rw [List.take_length] at hmx
                    have hal := all_lt (m : Int)
                    have htz := turn_ins khz.out
                    have hltT : ∀ l ∈ turnI B, ∀ x ∈ l, x.1 < 4294967296 := fun l hl => by
                      unfold turnI at hl
                      simp only [List.mem_reverse, List.mem_map] at hl
                      obtain ⟨l', hl', rfl⟩ := hl
                      exact fun x hx => klt.out l' hl' x (by simpa using hx)
                    have tpT := tops_of htz hltT
                    have hfrT : Hid (frZ (m : Int) (turnI B) 0 (allZ (m : Int)).1 = bz) := by show _ = _; rw [tpT.fr, turn_best klt.out hal, kbz.out]
                    have hckT : Hid (ckZ (m : Int) (turnI B) 0 (allZ (m : Int)).1 = 0) := tpT.ck
                    obtain ⟨ta, tc, hte, htI, htc⟩ := kBT2.out.ins (fun l hl => ⟨by have := tpT.eight l hl; omega, hltT l hl⟩)
                    have hltM : ∀ l ∈ moreI B kk (og, oc), l.length ≤ 9223372036854775807 ∧ ∀ x ∈ l, x.1 < 4294967296 := fun l hl => by
                      unfold moreI at hl
                      rcases List.mem_or_eq_of_mem_set hl with h | rfl
                      · exact ⟨by have := k8.out l h; omega, klt.out l h⟩
                      · rw [getD_get hkB]
                        refine ⟨by simp; omega, fun x hx => ?_⟩
                        rcases List.mem_append.1 hx with h | h
                        · exact klt.out _ (List.getElem_mem hkB) x h
                        · obtain rfl : x = (og, oc) := by simpa using h
                          exact hog
                    obtain ⟨ma, mc, hme, hmI, hmc⟩ := kBM.out.ins hltM
                    have hmore : Hid (ckZ (m : Int) (moreI B kk (og, oc)) 0 (allZ (m : Int)).1 = 0 → bz ≤ frZ (m : Int) (moreI B kk (og, oc)) 0 (allZ (m : Int)).1) := fun e => by
                      unfold frZ
                      rw [if_pos e, ← kbz.out]
                      exact best_mono (subI_more B kk (og, oc))
                    have hwz := wo_ins (k := kk) khz.out
                    have hwi : wiE (m : Int) B (kk : Int) = 0 := by
                      unfold wiE
                      rw [if_neg (by simp [khz.out]), if_pos ⟨by omega, by omega⟩]
                    have hwE : Hid (woE (m : Int) B (kk : Int) = 0) := by
                      show _ = _
                      unfold woE
                      rw [if_neg (by simp [hwi]), ck_zero]
                      exact hwz
                    have hwW : Hid (woW (m : Int) B (kk : Int) = best (B.set kk []) (allZ (m : Int)).1) := by
                      show _ = _
                      unfold woW
                      rw [if_neg (by simp [hwi])]
                      unfold frZ
                      rw [ck_zero, if_pos (show insZ (m : Int) (woB B (kk : Int)) = 0 from hwz)]
                      rfl
                    have hw1 : best (B.set kk []) (allZ (m : Int)).1 ≤ bz := by rw [← kbz.out]; exact best_mono (subI_set B kk)
                    have hw2 : bz ≤ best (B.set kk []) (allZ (m : Int)).1 + mz := by
                      rw [← kbz.out]
                      exact best_without klt.out hal hm0 (fun x hx => hmx.out x (by rw [getD_get hkB] at hx; exact hx))
                    have hwp := best_pos (B.set kk []) (allZ (m : Int)).1
                    have hbb : bz ≤ 35184372088832 := by
                      have ok := okB_of (P := []) khz.out rfl klt.out (fun v hv => by cases hv)
                      rw [← kbz.out]
                      have h1 := best_bnd ok.off (f := (allZ (m : Int)).1) hal (by rw [kall.out]; exact fun i h => h)
                      omega
                    have hfrK : Hid (frZ (m : Int) B (kk : Int) (allZ (m : Int)).1 ≤ bz ∧ ckZ (m : Int) B (kk : Int) (allZ (m : Int)).1 = 0) := by
                      have hc : ckZ (m : Int) B (kk : Int) (allZ (m : Int)).1 = 0 := by
                        unfold ckZ
                        rw [if_neg (by simp [khz.out])]
                        unfold ptB
                        rw [if_pos]
                        simp only [Bool.and_eq_true, decide_eq_true_eq]
                        exact ⟨by omega, by omega, (subB_iff hal).2 (fun i h => h)⟩
                      refine ⟨?_, hc⟩
                      unfold frZ
                      rw [if_pos hc, Int.toNat_natCast, ← kbz.out]
                      exact best_drop kk B _
                    simp only [Value.slice.injEq] at hte hme
                    obtain ⟨rfl, rfl, rfl⟩ := hte
                    obtain ⟨rfl, rfl, rfl⟩ := hme
                    have t0 := blk_cells (i := 0) kBT2.out.y rfl
                    have t1 := blk_cells (i := 1) kBT2.out.y rfl
                    have m0 := blk_cells (i := 0) kBM.out.y rfl
                    have m1 := blk_cells (i := 1) kBM.out.y rfl
                    simp only [List.getElem_toArray, List.getElem_cons_zero, List.getElem_cons_succ] at t0 t1 m0 m1
                    have kCT := hid (w_any (m : Int) _ _ (turnI B) wX htI htc (by rw [turn_len]; exact hl) (kT.out.old koX.out))
                    rw [hfrT.out, hckT.out] at kCT
                    have kCM := hid (fun W (o : Old wX W) => w_any (m : Int) _ _ (moreI B kk (og, oc)) W (hmI.old o) hmc (by rw [more_len]; exact hl) (kT.out.old (koX.out.trans o)))
                    obtain ⟨fb, hfb⟩ : ∃ fb, frZ (m : Int) (moreI B kk (og, oc)) 0 (allZ (m : Int)).1 = fb := ⟨_, rfl⟩
                    obtain ⟨cb, hcb⟩ : ∃ cb, ckZ (m : Int) (moreI B kk (og, oc)) 0 (allZ (m : Int)).1 = cb := ⟨_, rfl⟩
                    rw [hfb, hcb] at kCM hmore
                    have kWo := hid (fun W (o : Old w W) => without_any (m : Int) _ cap B (kk : Int) W (kh.out.old o) (kV.out.old o) hl (kT.out.old o))
                    rw [hwE.out, hwW.out] at kWo
                    obtain ⟨zw, hzw⟩ : ∃ zw, best (B.set kk []) (allZ (m : Int)).1 = zw := ⟨_, rfl⟩
                    rw [hzw] at kWo hw1 hw2 hwp
                    have kFr := hid (fun W (o : Old w W) => from_any (m : Int) _ cap B (kk : Int) (allZ (m : Int)).1 hal W (kh.out.old o) hcap hl (kT.out.old o))
                    rw [hfrK.out.2] at kFr
                    obtain ⟨fd, hfd⟩ : ∃ fd, frZ (m : Int) B (kk : Int) (allZ (m : Int)).1 = fd := ⟨_, rfl⟩
                    have hfd2 := hfrK.out.1
                    rw [hfd] at kFr hfd2
                    obtain ⟨wc, hwc⟩ : ∃ wc, woC (m : Int) B (kk : Int) = wc := ⟨_, rfl⟩
                    rw [hwc] at kWo
                    clear hwi hfb hcb hzw hfd hwc hfrK hwE hwW hfrT hckT htI htc hmI hmc tpT hltT hltM hwz htz hal
                    go_wp2_with fail
                    refine kCT.out.mono ?_
                    rintro e u1 ⟨rfl, o1⟩
                    have m0 := o1.cell m0
                    have m1 := o1.cell m1
                    clear t0 t1
                    go_wp2_with fail
                    refine (kCM.out u1 o1).mono ?_
                    rintro e u2 ⟨rfl, o2⟩
                    have kou := hid (koX.out.trans (o1.trans o2))
                    have x0 := (o1.trans o2).cell kx0.out
                    have x1 := (o1.trans o2).cell kx1.out
                    clear o1 o2 m0 m1 kCT kCM i3
                    go_wp2_with fail
                    refine (kWo.out u2 kou.out).mono ?_
                    rintro e u3 ⟨v3, rfl, hz3, o3⟩
                    obtain ⟨a3, c3, hv3, -⟩ := id hz3
                    subst hv3
                    have q3 : Old u3 (u3.alloc (.cells #[.slice a3 wc.length c3, .int .i64 zw] 30)) := (Old.refl u3).alloc _
                    have cw := new_cell u3 #[.slice a3 wc.length c3, .int .i64 zw] 30 1 _ rfl
                    simp only [List.getElem_toArray, List.getElem_cons_zero, List.getElem_cons_succ] at cw
                    have x0 := (o3.trans q3).cell x0
                    have x1 := (o3.trans q3).cell x1
                    have ko4 := hid (kou.out.trans (o3.trans q3))
                    clear o3 q3 hz3 kou kWo
                    go_upto_region 33 with fail
                    generalize u3.alloc (.cells #[.slice a3 wc.length c3, .int .i64 zw] 30) = u4 at *
                    generalize u3.heap.size = cbx at *
                    have hp2 : 2 ^ m ≤ 1024 := by
                      rw [show (1024 : Nat) = 2 ^ 10 by decide]
                      exact Nat.pow_le_pow_right (by decide) (by omega)
                    have hp1 : 1 ≤ 2 ^ m := Nat.one_le_two_pow
                    have hs1 : IntKind.u32.wrap ((2 : Int) ^ m) = ((2 ^ m : Nat) : Int) := by
                      show (2 : Int) ^ m % 4294967296 = _
                      rw [show ((2 : Int) ^ m) = ((2 ^ m : Nat) : Int) by simp]
                      omega
                    have hs2 : IntKind.u32.wrap (((2 ^ m : Nat) : Int) - 1) = ((allZ (m : Int)).1 : Int) := by
                      show (((2 ^ m : Nat) : Int) - 1) % 4294967296 = _
                      rw [kall.out]
                      omega
                    generalize (allZ (m : Int)).1 = f at *
                    generalize 2 ^ m = S at *
                    have od : Old u4 u4.drew := (Old.refl u4).drewN 1
                    refine wp_region_noPanic ?_
                    refine wp_region_held_drew (S := fun X => X.cell? ⟨s, 0, none⟩ = some (.int .i64 (m : Int)) ∧ X.cell? ⟨s, 1, none⟩ = some (.slice (some ⟨g, o, none⟩) B.length cap)) (by kernel_rfl) ⟨od.cell x0, od.cell x1⟩ (fun hHeld => ?_)
                    have cw := od.cell cw
                    have ko5 := hid (ko4.out.trans od)
                    clear od x0 x1 ko4
                    generalize u4.drew = V0 at *
                    refine' wpAnyH_take (i := 0) rfl (by kernel_rfl) (by kernel_rfl) (by kernel_rfl) (fun _ _ _ h => h) (Or.inl ⟨by rfl, ?_⟩) hHeld ?_
                    rotate_left
                    · intro W hSw
                      obtain ⟨r1, r2⟩ := hSw
                      simp only [List.getElem_toArray, List.getElem_cons_zero]
                      go_simp
                      all_goals with_reducible rfl
                    simp only [List.getElem_toArray, List.getElem_cons_zero, Act.put, List.setIfInBounds_toArray, List.set_cons_zero, List.set_cons_succ]
                    refine' wpAnyH_take (i := 1) rfl (by kernel_rfl) (by kernel_rfl) (by kernel_rfl) (fun _ _ _ h => h) (Or.inl ⟨by rfl, ?_⟩) hHeld ?_
                    rotate_left
                    · intro W hSw
                      obtain ⟨r1, r2⟩ := hSw
                      simp only [List.getElem_toArray, List.getElem_cons_zero, List.getElem_cons_succ]
                      go_simp
                      all_goals with_reducible rfl
                    simp only [List.getElem_toArray, List.getElem_cons_zero, List.getElem_cons_succ, Act.put, List.setIfInBounds_toArray, List.set_cons_zero, List.set_cons_succ]
                    refine' wpAnyH_take (i := 2) rfl (by kernel_rfl) (by kernel_rfl) (by kernel_rfl) (fun _ _ _ h => h) (Or.inl ⟨by rfl, ?_⟩) hHeld ?_
                    rotate_left
                    · intro W hSw
                      obtain ⟨r1, r2⟩ := hSw
                      simp only [List.getElem_toArray, List.getElem_cons_zero, List.getElem_cons_succ]
                      go_simp
                      all_goals with_reducible rfl
                    simp only [List.getElem_toArray, List.getElem_cons_zero, List.getElem_cons_succ, Act.put, List.setIfInBounds_toArray, List.set_cons_zero, List.set_cons_succ]
                    refine' wpAnyH_take (i := 3) rfl (by kernel_rfl) (by kernel_rfl) (by kernel_rfl) (fun _ _ _ h => h) (Or.inl ⟨by rfl, ?_⟩) hHeld ?_
                    rotate_left
                    · intro W hSw
                      obtain ⟨r1, r2⟩ := hSw
                      simp only [List.getElem_toArray, List.getElem_cons_zero, List.getElem_cons_succ]
                      go_simp
                      all_goals with_reducible rfl
                    simp only [List.getElem_toArray, List.getElem_cons_zero, List.getElem_cons_succ, Act.put, List.setIfInBounds_toArray, List.set_cons_zero, List.set_cons_succ]
                    refine' wpAnyH_take (i := 4) rfl (by kernel_rfl) (by kernel_rfl) (by kernel_rfl) (fun _ _ _ h => h) (Or.inl ⟨by rfl, ?_⟩) hHeld ?_
                    rotate_left
                    · intro W hSw
                      obtain ⟨r1, r2⟩ := hSw
                      simp only [List.getElem_toArray, List.getElem_cons_zero, List.getElem_cons_succ]
                      go_simp
                      all_goals with_reducible rfl
                    simp only [List.getElem_toArray, List.getElem_cons_zero, List.getElem_cons_succ, Act.put, List.setIfInBounds_toArray, List.set_cons_zero, List.set_cons_succ]
                    refine' wpAnyH_take (i := 5) rfl (by kernel_rfl) (by kernel_rfl) (by kernel_rfl) (fun _ _ _ h => h) (Or.inl ⟨by rfl, ?_⟩) hHeld ?_
                    rotate_left
                    · intro W hSw
                      obtain ⟨r1, r2⟩ := hSw
                      simp only [List.getElem_toArray, List.getElem_cons_zero, List.getElem_cons_succ]
                      go_simp
                      all_goals with_reducible rfl
                    simp only [List.getElem_toArray, List.getElem_cons_zero, List.getElem_cons_succ, Act.put, List.setIfInBounds_toArray, List.set_cons_zero, List.set_cons_succ]
                    refine wpAnyH_ready (rs := [6]) (by kernel_rfl) (by simp) ?_
                    refine AllReadyH.cons (o := _) rfl (fun K hK => ?_) AllReadyH.nil
                    simp only [List.getElem_toArray, List.getElem_cons_zero, List.getElem_cons_succ]
                    go_simp
                    refine (kFr.out V0 ko5.out).mono ?_
                    rintro e V1 ⟨rfl, o6⟩
                    refine hK.out _ _ (⟨o6.cell hHeld.1, o6.cell hHeld.2⟩) (fun hHeld2 => ?_)
                    clear hHeld hK
                    have hHeld := hHeld2
                    clear hHeld2
                    try simp only [Act.put, List.setIfInBounds_toArray, List.set_cons_zero, List.set_cons_succ]
                    have cw := o6.cell cw
                    have koK := hid (ko5.out.trans o6)
                    clear o6 ko5
                    refine' wpAnyH_take (i := 7) rfl (by kernel_rfl) (by kernel_rfl) (by kernel_rfl) (fun _ _ _ h => h) (Or.inl ⟨by rfl, ?_⟩) hHeld ?_
                    rotate_left
                    · intro W hSw
                      obtain ⟨r1, r2⟩ := hSw
                      simp only [List.getElem_toArray, List.getElem_cons_zero, List.getElem_cons_succ]
                      go_simp
                      all_goals with_reducible rfl
                    simp only [List.getElem_toArray, List.getElem_cons_zero, List.getElem_cons_succ, Act.put, List.setIfInBounds_toArray, List.set_cons_zero, List.set_cons_succ]
                    refine' wpAnyH_take (i := 8) rfl (by kernel_rfl) (by kernel_rfl) (by kernel_rfl) (fun _ _ _ h => h) (Or.inl ⟨by rfl, ?_⟩) hHeld ?_
                    rotate_left
                    · intro W hSw
                      obtain ⟨r1, r2⟩ := hSw
                      simp only [List.getElem_toArray, List.getElem_cons_zero, List.getElem_cons_succ]
                      go_simp
                      all_goals with_reducible rfl
                    simp only [List.getElem_toArray, List.getElem_cons_zero, List.getElem_cons_succ, Act.put, List.setIfInBounds_toArray, List.set_cons_zero, List.set_cons_succ]
                    refine' wpAnyH_take (i := 9) rfl (by kernel_rfl) (by kernel_rfl) (by kernel_rfl) (fun _ _ _ h => h) (Or.inl ⟨by rfl, ?_⟩) hHeld ?_
                    rotate_left
                    · intro W hSw
                      obtain ⟨r1, r2⟩ := hSw
                      simp only [List.getElem_toArray, List.getElem_cons_zero, List.getElem_cons_succ]
                      go_simp
                      all_goals with_reducible rfl
                    simp only [List.getElem_toArray, List.getElem_cons_zero, List.getElem_cons_succ, Act.put, List.setIfInBounds_toArray, List.set_cons_zero, List.set_cons_succ]
                    refine' wpAnyH_take (i := 10) rfl (by kernel_rfl) (by kernel_rfl) (by kernel_rfl) (fun _ _ _ h => h) (Or.inl ⟨by rfl, ?_⟩) hHeld ?_
                    rotate_left
                    · intro W hSw
                      obtain ⟨r1, r2⟩ := hSw
                      simp only [List.getElem_toArray, List.getElem_cons_zero, List.getElem_cons_succ]
                      go_simp
                      all_goals with_reducible rfl
                    simp only [List.getElem_toArray, List.getElem_cons_zero, List.getElem_cons_succ, Act.put, List.setIfInBounds_toArray, List.set_cons_zero, List.set_cons_succ]
                    refine' wpAnyH_take (i := 11) rfl (by kernel_rfl) (by kernel_rfl) (by kernel_rfl) (fun _ _ _ h => h) (Or.inl ⟨by rfl, ?_⟩) hHeld ?_
                    rotate_left
                    · intro W hSw
                      obtain ⟨r1, r2⟩ := hSw
                      simp only [List.getElem_toArray, List.getElem_cons_zero, List.getElem_cons_succ]
                      go_simp
                      all_goals with_reducible rfl
                    simp only [List.getElem_toArray, List.getElem_cons_zero, List.getElem_cons_succ, Act.put, List.setIfInBounds_toArray, List.set_cons_zero, List.set_cons_succ]
                    refine wpAnyH_done (by kernel_rfl) ?_ _
                    refine NoPanic.normal ?_
                    clear hHeld hs1 hs2
                    have hc0 : (bz != bz) = false := by simp
                    have hc1 : ¬ zw > bz := by omega
                    have hc2 : ¬ bz > zw + mz := by omega
                    have hc3 : ¬ fd > bz := by omega
                    by_cases hcb0 : cb = 0
                    · have hcb1 : (cb == 0) = true := by simpa using hcb0
                      have hc4 : ¬ fb < bz := by have := hmore.out hcb0; omega
                      clear hcb0
                      go_wp2_with fail
                      refine (known_any _ (kT.out.old koK.out)).mono ?_
                      rintro e w9 ⟨rfl, o9⟩
                      have ko9 := hid (koK.out.trans o9)
                      clear o9
                      go_wp2_with fail
                      go_ret
                      exact ⟨rfl, ko9.out⟩
                    · have hcb1 : (cb == 0) = false := by simpa using hcb0
                      go_wp2_with fail
                      all_goals (first | (rename_i h8 h9; simp [undef] at h8; done) | skip)
                      refine (known_any _ (kT.out.old koK.out)).mono ?_
                      rintro e w9 ⟨rfl, o9⟩
                      have ko9 := hid (koK.out.trans o9)
                      clear o9
                      go_wp2_with fail
                      go_ret
                      exact ⟨rfl, ko9.out⟩
          | succ k =>
            have e1 : (((k + 1 : Nat) : Int) - 1) = (k : Int) := by omega
            rw [e1]
            have hg : (k : Int) ≥ 0 := by omega
            have hkB : k < B.length := by omega
            have hkB' : (k : Int) < (B.length : Int) := by omega
            have hst := kst.out
            have x1 := frm_cell hR.out.2 kx1.out (by dsimp only; omega)
            obtain ⟨g, o, a0, c0, rfl, i1, i2, -, -⟩ := kh.out k hkB
            have hgw := World.block_lt_of_cell? _ _ i1
            have hsw := kss.out
            have i3 := frm_cell hR.out.2 (ko6.out.cell i1) (by dsimp only at hgw ⊢; omega)
            have kcl : Hid (∀ p v, w.cell? p = some v → ∀ X, Old wr X → X.cell? p = some v) := fun p v hv X oX => by
              have h1 := World.block_lt_of_cell? _ _ hv
              exact oX.cell (frm_cell hR.out.2 (ko6.out.cell hv) (by omega))
            have hL8 := k8.out _ (List.getElem_mem hkB)
            clear hgw hsw hst
            go_wp2_with fail
            rename World => wi
            go_loopw [13, 14] (fun t13 t14 wq => ∃ (J : Nat) (lv : Value), J ≤ B[k].length ∧ t13 = lv ∧ t14 = .int .i64 ((J : Int) - 1) ∧ Hid (wq.ownsRow wi.heap.size 57 2 lv (B[k].drop J).reverse.length (flatO (B[k].drop J).reverse) ∧ Old wi wq)) (fun _ t14 _ => (intOf t14 + 1).toNat)
            case atStart => exact ⟨B[k].length, .slice none 0 0, Nat.le_refl _, rfl, rfl, by rw [List.drop_length]; exact ⟨rfl, Or.inl ⟨rfl, rfl⟩⟩, Old.refl _⟩
            case round =>
              obtain ⟨J, lv, hJ, hlv, rfl, hq⟩ := hrel
              have hlv := hlv.symm
              subst hlv
              cases J with
              | zero =>
                have hg : ¬ (((0 : Nat) : Int) - 1 ≥ 0) := by omega
                have hlo := hq.out.1
                rw [List.drop_zero] at hlo
                obtain ⟨RL, hRL⟩ : ∃ RL, B[k].reverse = RL := ⟨_, rfl⟩
                rw [hRL] at hlo
                have hBI := hR.out.1.old hq.out.2
                have hFS : Hid (Frm (fun q => q = tb) wS wr) := Frm.trans hR.out.2 hq.out.2 (fun _ _ h => h.elim)
                have hNw : wS.heap.size ≤ wi.heap.size := hR.out.2.size
                have hwi := hq.out.2.size
                have hQl : Hid ((turnI (B.drop (k + 1))).length ≤ 40) := by show _ ≤ _; rw [turn_len, List.length_drop]; omega
                have hts := hid (turn_step hkB)
                rw [hRL] at hts
                obtain ⟨TQ, hTQ⟩ : ∃ TQ, turnI (B.drop (k + 1)) = TQ := ⟨_, rfl⟩
                rw [hTQ] at hBI hQl hts
                clear hTQ hRL x1 i3
                obtain ⟨la, lc, hlf, -, -⟩ := own_off hlo
                subst hlf
                have q4 : Old wr (wr.alloc (.cells #[.slice la RL.length lc] 55)) := (Old.refl wr).alloc _
                have hO4 : (wr.alloc (.cells #[.slice la RL.length lc] 55)).cell? ⟨wr.heap.size, 0, none⟩ = some (.slice la RL.length lc) := blk_cell (heap_new wr (.cells #[.slice la RL.length lc] 55))
                have y1 := blk_cells (i := 1) hBI.y rfl
                simp only [List.getElem_toArray, List.getElem_cons_zero, List.getElem_cons_succ] at y1
                have hB4 := hBI.old q4
                obtain ⟨V, hV4, hVL4⟩ := hB4.row
                have hl4 := own_old2 (ownLow hlo (show wS.heap.size ≤ _ from hNw)) q4
                have hVn := own_len hV4
                have kB4 := hid hB4
                have kV4 := hid hV4
                have kVL4 := hid hVL4
                have kl4 := hid hl4
                have kq4 := hid q4
                have hNs : wS.heap.size ≤ (wr.alloc (.cells #[.slice la RL.length lc] 55)).heap.size := by have := q4.size; omega
                clear q4 hVL4 hB4 hl4 hBI hlo
                go_wp2_with (at_builtin; refine wpAppR (by rfl) _ _ (by rfl) wS.heap.size (.slice va vn vc) wr.heap.size V (.slice la RL.length lc) TQ.length hVn (by rfl) (by rfl) hV4 hO4 (by simp [Value.oneCell']) (by have := hQl.out; omega) hNs ?_)
                generalize wr.alloc (.cells #[.slice la RL.length lc] 55) = w4' at *
                intro v5 w5 ow5 gr5
                have hf5 : Frm (fun q => (Value.slice va vn vc).ownBlock = some q) w4' w5 := Frm.grown (Frm.refl _ _) gr5 (fun q hq => Or.inr hq)
                obtain ⟨va5, vn5, vc5, rfl⟩ := own_form5 ow5
                have kN5 := hid (kB4.out.next kV4.out kVL4.out hf5 ow5 kl4.out)
                have hy5 : w5.heap[tb]? = some (.cells #[.int .i64 (m : Int), .slice va vn vc] 24 (0, 0)) := (hf5.block _ (blk_lt kB4.out.y) (fun e => by obtain ⟨cur', hc'⟩ := owns_block kV4.out e; exact typ_ne kB4.out.y hc' (by decide) rfl)).trans kB4.out.y
                have y5 := blk_cells (i := 1) hy5 rfl
                have y6 := blk_fz hy5 1
                simp only [List.getElem_toArray, List.getElem_cons_zero, List.getElem_cons_succ] at y5
                have kF5 : Hid (Frm (fun q => q = tb) wS (w5.setCell ⟨tb, 1, none⟩ (.slice va5 vn5 vc5))) := by
                  have f1 : Frm (fun q => q = tb ∨ wS.heap.size ≤ q) wr w5 := Frm.trans (Frm.mono kq4.out (fun _ _ h => h.elim)) hf5 (fun q hq e => by
                    rcases kV4.out.2 with ⟨e2, _⟩ | ⟨q', c, cur, e2, h3, _⟩
                    · rw [e2] at e; simp [Value.ownBlock] at e
                    · rw [e2] at e
                      simp [Value.ownBlock] at e
                      exact .inr (by omega))
                  exact Frm.trans (Frm.trans hFS.out f1 (fun q hq e => by omega)) (frm_set w5 tb 1 _) (fun q _ e => e)
                clear ow5 gr5 hf5 hy5 hV4 hVn hO4
                have kN6 : Hid (BI wS.heap.size (w5.setCell ⟨tb, 1, none⟩ (.slice va5 vn5 vc5)) tb (m : Int) (.slice va5 vn5 vc5) (turnI (B.drop k)) ∧ Frm (fun q => q = tb) wS (w5.setCell ⟨tb, 1, none⟩ (.slice va5 vn5 vc5))) := ⟨by rw [hts.out]; exact kN5.out, kF5.out⟩
                go_wp2_with fail
                go_roundw
                case rel => exact ⟨k, _, _, _, by omega, by first | rfl | go_num, kN6⟩
                case measure => simp [intOf]
              | succ J =>
                have e2 : (((J + 1 : Nat) : Int) - 1) = (J : Int) := by omega
                rw [e2]
                have hg2 : (J : Int) ≥ 0 := by omega
                have hjl : J < B[k].length := by omega
                have hjl' : (J : Int) < (B[k].length : Int) := by omega
                obtain ⟨og', oo, rfl, q1, q2⟩ := i2 J hjl
                have x3 := hq.out.2.cell x1
                have i4 := hq.out.2.cell i3
                have q3 := kcl.out _ _ q1 _ hq.out.2
                have q4 := kcl.out _ _ q2 _ hq.out.2
                have hrs := hid (rev_step (L := B[k]) hjl)
                generalize B[k][J] = x at *
                obtain ⟨xg, xc⟩ := x
                dsimp only at q3 q4 hrs
                have o5 : Old wr (wr.alloc (.cells #[.int .u32 (xg : Int), .int .i64 xc] 57)) := (Old.refl wr).alloc _
                have hO5 : OffC (wr.alloc (.cells #[.int .u32 (xg : Int), .int .i64 xc] 57)) (some ⟨wr.heap.size, 0, none⟩) [(xg, xc)] := off_blk (L := [(xg, xc)]) (heap_new wr (.cells #[.int .u32 (xg : Int), .int .i64 xc] 57))
                have hrl : Hid ((B[k].drop (J + 1)).reverse.length ≤ 8) := by show _ ≤ _; simp; omega
                obtain ⟨RL, hRL⟩ : ∃ RL, (B[k].drop (J + 1)).reverse = RL := ⟨_, rfl⟩
                rw [hRL] at hq hrs hrl
                have ow5 : (wr.alloc (.cells #[.int .u32 (xg : Int), .int .i64 xc] 57)).ownsRow wi.heap.size 57 2 lv RL.length (flatO RL) := own_old2 hq.out.1 o5
                have kq5 := hid (hq.out.2.trans o5)
                have hsz := kq5.out.size
                clear o5 hRL
                go_wp2_with (at_builtin; refine wpAppO (by rfl) _ _ (by rfl) wi.heap.size lv (some ⟨wr.heap.size, 0, none⟩) 1 RL [(xg, xc)] (by rfl) (by rfl) ow5 hO5 (fun h => by cases h) (by have := hrl.out; simp; omega) hsz ?_)
                generalize wr.alloc (.cells #[.int .u32 (xg : Int), .int .i64 xc] 57) = w5 at *
                intro v6 w6 ow6 gr6
                have kN : Hid (w6.ownsRow wi.heap.size 57 2 v6 (B[k].drop J).reverse.length (flatO (B[k].drop J).reverse) ∧ Old wi w6) := by
                  rw [hrs.out]
                  exact ⟨by rw [List.length_append]; exact ow6, grown_own kq5.out ow5 gr6⟩
                clear ow6 gr6 ow5 hO5
                go_wp2_with fail
                go_roundw
                case rel => exact ⟨J, _, by omega, rfl, by first | rfl | go_num, kN⟩
                case measure => simp [intOf]
    · have hckb : (ckZ gd B 0 (allZ gd).1 != 0) = true := by simpa using hck
      generalize ckZ gd B 0 (allZ gd).1 = cz at *
      go_wp2_with fail
      all_goals (first | (rename_i h8 h9; simp [undef] at h8; done) | skip)
      have koK := ko3
      refine (known_any _ (kT.out.old koK.out)).mono ?_
      rintro e w9 ⟨rfl, o9⟩
      have ko9 := hid (koK.out.trans o9)
      clear o9
      go_wp2_with fail
      go_ret
      exact ⟨rfl, ko9.out⟩
end Go.Proofs.YtmapejhacbmckaaDoor
