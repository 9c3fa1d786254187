/- The document's Way, walked. -/
import Derived.Test.YtfiogkmgenodgaaDoorW0
namespace Go.Proofs.YtfiogkmgenodgaaDoor
open Go.RowKit



/-- What Way answers. -/
def WayP (gd : Int) (B : Ins) (w : World) (e : Ending) (w' : World) : Prop := Old w w' ∧ ((insZ gd B = 0 ∧ ∃ pb tv, e = .returned (.tuple #[.slice (some ⟨pb, 0, none⟩) gd.toNat gd.toNat, .int .i64 (endS gd B).2.1, tv, .int .i64 0]) ∧ w.heap.size ≤ pb ∧ Own .i64 2 w' pb ((endS gd B).2.2.take gd.toNat) ∧ w'.ownsRow w.heap.size 96 2 tv (told (evs gd B)).length (flatT (told (evs gd B)))) ∨ (insZ gd B ≠ 0 ∧ e = .returned (.tuple #[.slice none 0 0, .int .i64 0, .slice none 0 0, .int .i64 (insZ gd B)])))

set_option maxRecDepth 100000 in
set_option maxHeartbeats 8000000 in
theorem way_any (gd : Int) (bo : Option Addr) (cap : Nat) (B : Ins) (w : World) (h : InsC w bo B) (hl : B.length ≤ 9223372036854775807) :
    Calls Tryd.prog 26 #[.agg #[.int .i64 gd, .slice bo B.length cap]] w (WayP gd B w) := by
  have o1 : Old w (w.alloc (.cells #[.int .i64 gd, .slice bo B.length cap] 38)) := (Old.refl w).alloc _
  have c0 := new_cell w #[.int .i64 gd, .slice bo B.length cap] 38 0 _ rfl
  have c1 := new_cell w #[.int .i64 gd, .slice bo B.length cap] 38 1 _ rfl
  have kI := hid (rinst_any gd bo cap B _ (h.old o1) hl)
  have klt := hid (ins_lt h)
  have kh := hid h
  have ko := hid o1
  clear o1 h
  go_enter Tryd.func26, Tryd.ntmps26
  go_wp2_with fail
  generalize w.alloc (.cells #[.int .i64 gd, .slice bo B.length cap] 38) = w1 at *
  obtain ⟨xb, hxb⟩ : ∃ xb, w.heap.size = xb := ⟨_, rfl⟩
  have kxb := hid hxb
  rw [hxb] at c0 c1 ⊢
  clear hxb
  refine kI.out.mono ?_
  rintro e w2 ⟨rfl, o2⟩
  have c0 := o2.cell c0
  have c1 := o2.cell c1
  have ko2 := hid (ko.out.trans o2)
  clear o2 kI ko
  by_cases hz : insZ gd B = 0
  · have hgd := ins_gd hz
    have kz := hid hz
    obtain ⟨hB32, hOk⟩ := ok_of hz klt.out
    rw [hz]
    clear hz
    obtain ⟨m, rfl⟩ : ∃ m : Nat, gd = m := ⟨gd.toNat, by omega⟩
    have hm10 : m ≤ 10 := by omega
    have kall := hid (all_of hgd)
    rw [Int.toNat_natCast] at hOk kall
    have kOk := hid hOk
    have kAl := hid (fun w => rall_any m (by omega) w)
    have hmk := make_n m (by omega) w2
    clear hOk
    go_upto_region 5 with fail
    clear hmk
    have q3 : Old w2 (w2.alloc (.cells (Array.replicate m (Value.int .i64 0)) 2)) := (Old.refl w2).alloc _
    have ow3 : Own .i64 2 (w2.alloc (.cells (Array.replicate m (Value.int .i64 0)) 2)) w2.heap.size (List.replicate m 0) := ⟨by rw [heap_new]; simp⟩
    have z3 := alloc_size w2 (.cells (Array.replicate m (Value.int .i64 0)) 2)
    have hxl := cell_lt' c0
    generalize w2.alloc (.cells (Array.replicate m (Value.int .i64 0)) 2) = w3 at *
    generalize w2.heap.size = pb at *
    have hX3 : Hid (WY w xb pb (pb + 1) m bo cap B (List.replicate m 0) (.slice none 0 0) [] w3) := hid ⟨ko2.out.trans q3, q3.cell c0, q3.cell c1, ow3, ⟨rfl, Or.inl ⟨rfl, rfl⟩⟩, by have := kxb.out; omega, hxl, by omega, by omega⟩
    have kBd := hid (fun (P : List Int) v L Y (hP : P.length = m) (hx : WY w xb pb (pb + 1) m bo cap B P v L Y) => wbound (al := 2 ^ m - 1) kh.out hl hP hm10 hx)
    have kyes := hid (fun (s : St) (g : Nat) (c u : Int) => way_yes (m := m) (B := B) (s := s) (g := g) (c := c) (u := u) kall.out kOk.out)
    have kno := hid (fun (s : St) (g : Nat) (c u : Int) => way_no (m := m) (B := B) (s := s) (g := g) (c := c) (u := u) kall.out kOk.out)
    have kst : Hid (boundZ (List.replicate m 0) (2 ^ m - 1) B = (st0 m B).2.1) := by
      show _ = _
      rw [st0, kall.out]
      exact bound_congr (zero_ok _) (zero_ok 10) (fun i _ => by rw [zero_get]; exact (zero_get 10 i).symm) kOk.out
    have kst2 : Hid ((st0 m B).2.2.take m = List.replicate m 0) := by
      show (List.replicate 10 (0 : Int)).take m = _
      rw [List.take_replicate, Nat.min_eq_left hm10]
    generalize (2 ^ m - 1 : Nat) = al at *
    clear q3 ow3 z3 hxl c0 c1 ko2
    have c0 := hX3.out.x0
    have c1 := hX3.out.x1
    go_wp2_with fail
    refine (kAl.out _).mono ?_
    rintro e w' ⟨rfl, e1⟩
    rw [e1]
    clear e1 w'
    go_wp2_with fail
    refine (kBd.out _ _ _ _ (by simp) hX3.out).mono ?_
    rintro e w4 ⟨rfl, o4⟩
    have hX4 := hid (hX3.out.olds o4)
    rw [kst.out]
    rw [← kst2.out] at hX4
    have hI0 : Hid (WI m B (st0 m B) [] (stepEv m B 41 (st0 m B)).1) := hid WI.zero
    generalize st0 m B = sx at *
    clear o4 hX3 c0 c1 kst kst2 kAl
    go_wp2_with fail
    go_loopw [9, 10, 11] (fun nv tv cv wr => ∃ (k : Nat) (s : St) (p : List St), k ≤ 41 ∧ nv = .int .i64 s.2.1 ∧ cv = .int .i64 (sv k) ∧ Hid (WI m B s p (stepEv m B k s).1) ∧ Hid (WY w xb pb (pb + 1) m bo cap B (s.2.2.take m) tv (told p) wr)) (fun _ _ t _ => (intOf t).toNat)
    case atStart => exact ⟨41, sx, [], by omega, rfl, by rw [sv_41], hI0, hX4⟩
    case round =>
      clear hI0 hX4
      obtain ⟨k, s, p, hk, rfl, rfl, hI, hX⟩ := hrel
      match k, hk with
      | 0, _ =>
        rw [sv_zero]
        have hf := hid ((hI.out.re (by rw [stepEv])).fin)
        obtain ⟨hp, hs⟩ := hf.out
        subst hs
        subst hp
        generalize hE : endS (m : Int) B = E at *
        have kE := hid hE
        clear hE hf hI
        go_wp2_with fail
        refine bodyPost_ret (v := .tuple #[.slice (some ⟨pb, 0, none⟩) m m, .int .i64 E.2.1, u10, .int .i64 0]) ?_ rfl ⟨hX.out.old, Or.inl ⟨kz.out, pb, u10, ?_, ?_, ?_, ?_⟩⟩
        · simp [results, Tryd.f26, go_sem]
        · rw [kE.out, Int.toNat_natCast]
        · have := hX.out.lo
          have := hX.out.xp
          omega
        · rw [kE.out, Int.toNat_natCast]
          exact hX.out.own
        · exact row_lo hX.out.row (by have := hX.out.lo; have := hX.out.xp; omega)
      | k + 1, hk =>
        obtain ⟨hc1, hc2⟩ := sv_bnd (k := k) (by omega)
        have hcs : Hid (((2 ^ k : Nat) : Int) = sv (k + 1)) := (sv_succ k).symm
        have hch := hid (sv_half k)
        have hcl := hid (sv_less k)
        have hI1 : Hid (WI m B s p ((passEv m B (sv (k + 1)) 16 s).1 ++ (stepEv m B k (passEv m B (sv (k + 1)) 16 s).2).1)) := hid (hI.out.re (by rw [stepEv, hcs.out]))
        generalize sv (k + 1) = c at *
        clear hI hcs
        go_wp2_with fail
        have hd0 : decide (0 < c) = true := by simp only [decide_eq_true_eq]; omega
        try rw [hd0]
        clear hd0
        go_loopw [9, 10, 12] (fun nv tv t wr => ∃ (n : Nat) (s : St) (p : List St), n ≤ 16 ∧ nv = .int .i64 s.2.1 ∧ t = .int .i64 ((16 - n : Nat) : Int) ∧ Hid (WI m B s p ((passEv m B c n s).1 ++ (stepEv m B k (passEv m B c n s).2).1)) ∧ Hid (WY w xb pb (pb + 1) m bo cap B (s.2.2.take m) tv (told p) wr)) (fun _ _ t _ => 16 - (intOf t).toNat)
        case atStart => exact ⟨16, s, p, by omega, rfl, rfl, hI1, hX⟩
        case round =>
          clear hI1 hX
          obtain ⟨n, s, p, hn, rfl, rfl, hI, hX⟩ := hrel
          match n, hn with
          | 0, _ =>
            have hI2 : Hid (WI m B s p (stepEv m B k s).1) := hid (hI.out.re (by rw [passEv, List.nil_append]))
            have h16 : (((16 - 0 : Nat) : Int)) = 16 := rfl
            rw [h16]
            have hch2 := hch.out
            clear hI h16
            go_wp2_with fail
            go_roundw
            case rel => exact ⟨k, s, p, by omega, rfl, by rw [hch.out], hI2, hX⟩
            case measure => have := hcl.out; have := hc1; simp [intOf]; omega
          | n + 1, hn =>
            obtain ⟨t, ht⟩ : ∃ t : Nat, 16 - (n + 1) = t := ⟨_, rfl⟩
            have htn : Hid (16 - n = t + 1) := by show _ = _; omega
            have ht16 : (t : Int) < 16 := by omega
            rw [ht]
            clear ht
            have hI2 : Hid (WI m B s p ((goodsEv m B c 0 m s).1 ++ contZ m B c k n s.2.2 (goodsEv m B c 0 m s).2)) := hid (hI.out.re (by rw [pass_eq, Int.toNat_natCast]))
            have hv0 := hid hI.out.inv
            clear hI
            obtain ⟨s0, hs0⟩ : ∃ s0, s = s0 := ⟨_, rfl⟩
            rw [hs0] at hI2 hv0 hX ⊢
            clear hs0
            go_wp2_with fail
            go_loopw [9, 10, 13, 14] (fun nv tv fv t wr => ∃ (g : Nat) (s : St) (p : List St) (b : Bool), g ≤ m ∧ nv = .int .i64 s.2.1 ∧ fv = .bool b ∧ t = .int .i64 (g : Int) ∧ Hid (WI m B s p ((goodsEv m B c g (m - g) s).1 ++ contZ m B c k n s0.2.2 (goodsEv m B c g (m - g) s).2)) ∧ Hid (WY w xb pb (pb + 1) m bo cap B (s.2.2.take m) tv (told p) wr) ∧ Hid ((b = false ∧ s = s0) ∨ (b = true ∧ s.2.1 < s0.2.1))) (fun _ _ _ t _ => m - (intOf t).toNat)
            case atStart => exact ⟨0, s0, p, false, Nat.zero_le _, rfl, rfl, rfl, hI2, hX, hid (Or.inl ⟨rfl, rfl⟩)⟩
            case round =>
              clear hI2 hX
              obtain ⟨g, s, p, b, hg, rfl, rfl, rfl, hI, hX, hb⟩ := hrel
              have c0 := hX.out.x0
              have c1 := hX.out.x1
              by_cases hlt : g < m
              · have hlt' : (g : Int) < (m : Int) := by omega
                obtain ⟨r, hr⟩ : ∃ r, m - g = r + 1 := ⟨m - g - 1, by omega⟩
                have hr2 : Hid (m - (g + 1) = r) := by show _ = _; omega
                rw [hr] at hI
                clear hr
                have hPl : Hid ((s.2.2.take m).length = m) := by show _ = _; rw [List.length_take, hI.out.ok.1]; omega
                obtain ⟨pc, pf⟩ := hX.out.own.cell (i := g) (by rw [hPl.out]; exact hlt)
                obtain ⟨u, hu⟩ : ∃ u, (s.2.2.take m)[g]'(by rw [hPl.out]; exact hlt) = u := ⟨_, rfl⟩
                rw [hu] at pc
                have hug : Hid (s.2.2.getD g 0 = u) := by
                  show _ = _
                  rw [← take_get hlt, List.getD_eq_getElem?_getD, List.getElem?_eq_getElem (by rw [hPl.out]; exact hlt), hu]
                  rfl
                have hPs : Hid ((s.2.2.take m).set g u = s.2.2.take m) := by
                  show _ = _
                  rw [← hu, List.set_getElem_self]
                have hub := hI.out.ok.get g
                rw [hug.out] at hub
                have kY1 := hid (kyes.out s g c u hI.out.ok hug.out)
                have kN1 := hid (kno.out s g c u hI.out.ok hug.out)
                have kY2 := hid (kyes.out s g (-c) u hI.out.ok hug.out)
                have kN2 := hid (kno.out s g (-c) u hI.out.ok hug.out)
                have ko1 := hid (way_out (m := m) (B := B) (s := s) (g := g) (c := c) (u := u) hug.out)
                have ko2 := hid (way_out (m := m) (B := B) (s := s) (g := g) (c := -c) (u := u) hug.out)
                rw [← Int.sub_eq_add_neg] at kY2 kN2 ko2
                have htk : Hid (∀ a, (s.2.2.set g a).take m = (s.2.2.take m).set g a) := fun a => List.take_set ..
                obtain ⟨P, hP⟩ : ∃ P, s.2.2.take m = P := ⟨_, rfl⟩
                have hPP := hid hP
                obtain ⟨nw, hn0⟩ : ∃ nw, s.2.1 = nw := ⟨_, rfl⟩
                have hnw := hid hn0
                rw [hP] at hPl hPs htk hX kY1 kN1 kY2 kN2
                rw [hn0] at kY1 kN1 kY2 kN2 ⊢
                clear hP hn0 hu hug
                by_cases hA : u + c ≤ 1099511627776
                · have hX1 := hid (hX.out.set g (u + c))
                  go_upto_region 22 with fail
                  generalize wr.setCell ⟨pb, g, none⟩ (.int .i64 (u + c)) = w1 at *
                  clear pc pf c0 c1
                  have kB1 := hid (kBd.out (P.set g (u + c)) _ _ w1 (by simp [hPl.out]) hX1.out)
                  have kY6 := hid (kY1.out ⟨by omega, hA⟩)
                  have kN6 := hid (kN1.out ⟨by omega, hA⟩)
                  obtain ⟨b1, hb1⟩ : ∃ b1, boundZ (P.set g (u + c)) al B = b1 := ⟨_, rfl⟩
                  rw [hb1] at kB1 kY6 kN6
                  have c0 := hX1.out.x0
                  have c1 := hX1.out.x1
                  clear hb1
                  go_wp2_with fail
                  refine kB1.out.mono ?_
                  rintro e w2 ⟨rfl, o2⟩
                  have hX2 := hid (hX1.out.olds o2)
                  clear o2 kB1 c0 c1 hX1
                  by_cases hl1 : b1 < nw
                  · have hn1 : ¬ b1 ≥ nw := by omega
                    have ht1 := hid (kY6.out hl1)
                    have ht3 := ht1.out
                    have hbt := (both_first ht1.out)
                    obtain ⟨t, ht⟩ : ∃ t : St, ((g : Int), b1, s.2.2.set g (u + c)) = t := ⟨_, rfl⟩
                    have hT1 : Hid (t.1 = (g : Int)) := by rw [← ht]; exact rfl
                    have hT2 : Hid (t.2.1 = b1) := by rw [← ht]; exact rfl
                    have hT3 : Hid (t.2.2 = s.2.2.set g (u + c)) := by rw [← ht]; exact rfl
                    rw [ht] at ht3 hbt
                    clear ht
                    have hIz : Hid (WI m B t (p ++ [t]) ((goodsEv m B c (g + 1) r t).1 ++ contZ m B c k n s0.2.2 (goodsEv m B c (g + 1) r t).2)) := hid ((hI.out.re (rest' := t :: ((goodsEv m B c (g + 1) r t).1 ++ contZ m B c k n s0.2.2 (goodsEv m B c (g + 1) r t).2)) (by rw [goods_some hbt]; simp only [List.cons_append])).tell (tryZ_ok hI.out.ok ht3) (try_inv ht3).1)
                    have hpl := hI.out.len hm10
                    have hsz := hX2.out.sz
                    have c0 := hX2.out.x0
                    have c1 := hX2.out.x1
                    have oz : Old w2 (World.alloc w2 (.cells #[.int .i64 (g : Int), .int .i64 b1] 96)) := (Old.refl _).alloc _
                    have hz := heap_new w2 (.cells #[.int .i64 (g : Int), .int .i64 b1] 96)
                    have kz0 : Hid ((World.alloc w2 (.cells #[.int .i64 (g : Int), .int .i64 b1] 96)).cell? ⟨(World.heap w2).size, 0, none⟩ = some (.int .i64 (g : Int))) := blk_cells hz rfl
                    have kz1 : Hid ((World.alloc w2 (.cells #[.int .i64 (g : Int), .int .i64 b1] 96)).cell? ⟨(World.heap w2).size, 1, none⟩ = some (.int .i64 b1)) := blk_cells hz rfl
                    have hXz := hid (hX2.out.olds oz)
                    have hlb : Hid (b1 < s0.2.1) := by
                      show b1 < s0.2.1
                      have h9 := hnw.out
                      rcases hb.out with ⟨-, e⟩ | ⟨-, e⟩
                      · rw [← e]; omega
                      · omega
                    clear hz oz ht3 hbt hX hI kY1 kN1 kY2 kN2 hb
                    go_wp2_with (at_builtin; refine wpAppT (by rfl) _ _ (by rfl) (pb + 1) u10 (World.heap w2).size 1 (told p) ((g : Int), b1) (by rfl) (by rfl) hXz.out.row kz0.out kz1.out (by omega) hXz.out.sz ?_)
                    intro v5 w5 r5 g5
                    have hX5 : Hid (WY w xb pb (pb + 1) m bo cap B (P.set g (u + c)) v5 (told p ++ [((g : Int), b1)]) w5) := hid (hXz.out.grow (L' := told p ++ [((g : Int), b1)]) g5 (by rw [List.length_append]; exact r5))
                    clear g5 r5 hXz kz0 kz1
                    go_wp2_with fail
                    go_roundw
                    case rel => exact ⟨g + 1, t, p ++ [t], true, by omega, by rw [hT2.out], rfl, by go_num, hid (by rw [hr2.out]; exact hIz.out), hid (by rw [told_snoc, hT1.out, hT2.out, hT3.out, htk.out]; exact hX5.out), hid (Or.inr ⟨rfl, by rw [hT2.out]; exact hlb.out⟩)⟩
                    case measure => simp [intOf]; omega
                  · have hn1 : b1 ≥ nw := by omega
                    have ht1 := hid (kN6.out (by omega))
                    obtain ⟨uy, pcy⟩ : ∃ uy, (World.cell? w2 ⟨pb, g, none⟩) = some (.int .i64 uy) := ⟨_, (hX2.out.own.cell (i := g) (by first | (rw [hPl.out]; exact hlt) | (rw [List.length_set, hPl.out]; exact hlt))).1⟩
                    have pfy : World.frozen? w2 ⟨pb, g, none⟩ = false := (hX2.out.own.cell (i := g) (by first | (rw [hPl.out]; exact hlt) | (rw [List.length_set, hPl.out]; exact hlt))).2
                    have c0 := hX2.out.x0
                    have c1 := hX2.out.x1
                    by_cases hS : u - c ≥ 0
                    · have hX6 : Hid (WY w xb pb (pb + 1) m bo cap B (P.set g (u - c)) u10 (told p) (World.setCell w2 ⟨pb, g, none⟩ (.int .i64 (u - c)))) := by
                        have h1 := hX2.out.set g (u - c)
                        try rw [List.set_set] at h1
                        exact h1
                      go_upto_region 25 with fail
                      generalize World.setCell w2 ⟨pb, g, none⟩ (.int .i64 (u - c)) = w6 at *
                      have kB6 := hid (kBd.out (P.set g (u - c)) _ _ w6 (by simp only [List.length_set, hPl.out]) hX6.out)
                      clear pcy pfy c0 c1
                      have kY6 := hid (kY2.out ⟨hS, by omega⟩)
                      have kN6 := hid (kN2.out ⟨hS, by omega⟩)
                      obtain ⟨b6, hb6⟩ : ∃ b6, boundZ (P.set g (u - c)) al B = b6 := ⟨_, rfl⟩
                      rw [hb6] at kB6 kY6 kN6
                      have c0 := hX6.out.x0
                      have c1 := hX6.out.x1
                      clear hb6
                      go_wp2_with fail
                      refine kB6.out.mono ?_
                      rintro e w7 ⟨rfl, o7⟩
                      have hX7 := hid (hX6.out.olds o7)
                      clear o7 kB6 c0 c1 hX6
                      by_cases hl6 : b6 < nw
                      · have hn6 : ¬ b6 ≥ nw := by omega
                        have ht2 := hid (kY6.out hl6)
                        have ht3 := ht2.out
                        have hbt := ((both_second ht1.out).trans ht2.out)
                        obtain ⟨t, ht⟩ : ∃ t : St, ((g : Int), b6, s.2.2.set g (u - c)) = t := ⟨_, rfl⟩
                        have hT1 : Hid (t.1 = (g : Int)) := by rw [← ht]; exact rfl
                        have hT2 : Hid (t.2.1 = b6) := by rw [← ht]; exact rfl
                        have hT3 : Hid (t.2.2 = s.2.2.set g (u - c)) := by rw [← ht]; exact rfl
                        rw [ht] at ht3 hbt
                        clear ht
                        have hIz : Hid (WI m B t (p ++ [t]) ((goodsEv m B c (g + 1) r t).1 ++ contZ m B c k n s0.2.2 (goodsEv m B c (g + 1) r t).2)) := hid ((hI.out.re (rest' := t :: ((goodsEv m B c (g + 1) r t).1 ++ contZ m B c k n s0.2.2 (goodsEv m B c (g + 1) r t).2)) (by rw [goods_some hbt]; simp only [List.cons_append])).tell (tryZ_ok hI.out.ok ht3) (try_inv ht3).1)
                        have hpl := hI.out.len hm10
                        have hsz := hX7.out.sz
                        have c0 := hX7.out.x0
                        have c1 := hX7.out.x1
                        have oz : Old w7 (World.alloc w7 (.cells #[.int .i64 (g : Int), .int .i64 b6] 96)) := (Old.refl _).alloc _
                        have hz := heap_new w7 (.cells #[.int .i64 (g : Int), .int .i64 b6] 96)
                        have kz0 : Hid ((World.alloc w7 (.cells #[.int .i64 (g : Int), .int .i64 b6] 96)).cell? ⟨(World.heap w7).size, 0, none⟩ = some (.int .i64 (g : Int))) := blk_cells hz rfl
                        have kz1 : Hid ((World.alloc w7 (.cells #[.int .i64 (g : Int), .int .i64 b6] 96)).cell? ⟨(World.heap w7).size, 1, none⟩ = some (.int .i64 b6)) := blk_cells hz rfl
                        have hXz := hid (hX7.out.olds oz)
                        have hlb : Hid (b6 < s0.2.1) := by
                          show b6 < s0.2.1
                          have h9 := hnw.out
                          rcases hb.out with ⟨-, e⟩ | ⟨-, e⟩
                          · rw [← e]; omega
                          · omega
                        clear hz oz ht3 hbt hX hI kY1 kN1 kY2 kN2 hb
                        go_wp2_with (at_builtin; refine wpAppT (by rfl) _ _ (by rfl) (pb + 1) u10 (World.heap w7).size 1 (told p) ((g : Int), b6) (by rfl) (by rfl) hXz.out.row kz0.out kz1.out (by omega) hXz.out.sz ?_)
                        intro v5 w5 r5 g5
                        have hX5 : Hid (WY w xb pb (pb + 1) m bo cap B (P.set g (u - c)) v5 (told p ++ [((g : Int), b6)]) w5) := hid (hXz.out.grow (L' := told p ++ [((g : Int), b6)]) g5 (by rw [List.length_append]; exact r5))
                        clear g5 r5 hXz kz0 kz1
                        go_wp2_with fail
                        go_roundw
                        case rel => exact ⟨g + 1, t, p ++ [t], true, by omega, by rw [hT2.out], rfl, by go_num, hid (by rw [hr2.out]; exact hIz.out), hid (by rw [told_snoc, hT1.out, hT2.out, hT3.out, htk.out]; exact hX5.out), hid (Or.inr ⟨rfl, by rw [hT2.out]; exact hlb.out⟩)⟩
                        case measure => simp [intOf]; omega
                      · have hn6 : b6 ≥ nw := by omega
                        have ht2 := hid (kN6.out (by omega))
                        obtain ⟨uz, pcz⟩ : ∃ uz, (World.cell? w7 ⟨pb, g, none⟩) = some (.int .i64 uz) := ⟨_, (hX7.out.own.cell (i := g) (by first | (rw [hPl.out]; exact hlt) | (rw [List.length_set, hPl.out]; exact hlt))).1⟩
                        have pfz : World.frozen? w7 ⟨pb, g, none⟩ = false := (hX7.out.own.cell (i := g) (by first | (rw [hPl.out]; exact hlt) | (rw [List.length_set, hPl.out]; exact hlt))).2
                        have hXz : Hid (WY w xb pb (pb + 1) m bo cap B P u10 (told p) (World.setCell w7 ⟨pb, g, none⟩ (.int .i64 u))) := by
                          have h1 := hX7.out.set g u
                          rw [List.set_set, hPs.out] at h1
                          exact h1
                        have hIz : Hid (WI m B s p ((goodsEv m B c (g + 1) r s).1 ++ contZ m B c k n s0.2.2 (goodsEv m B c (g + 1) r s).2)) := hid (hI.out.re (by rw [goods_none ((both_second ht1.out).trans ht2.out)]))
                        have c0 := hX7.out.x0
                        have c1 := hX7.out.x1
                        clear hX hI kY1 kN1 kY2 kN2
                        go_wp2_with fail
                        go_roundw
                        case rel => exact ⟨g + 1, s, p, b, by omega, by rw [hnw.out], rfl, by go_num, hid (by rw [hr2.out]; exact hIz.out), hid (by rw [hPP.out]; exact hXz.out), hb⟩
                        case measure => simp [intOf]; omega
                    · have ht2 := hid (ko2.out (by omega))
                      obtain ⟨uz, pcz⟩ : ∃ uz, (World.cell? w2 ⟨pb, g, none⟩) = some (.int .i64 uz) := ⟨_, (hX2.out.own.cell (i := g) (by first | (rw [hPl.out]; exact hlt) | (rw [List.length_set, hPl.out]; exact hlt))).1⟩
                      have pfz : World.frozen? w2 ⟨pb, g, none⟩ = false := (hX2.out.own.cell (i := g) (by first | (rw [hPl.out]; exact hlt) | (rw [List.length_set, hPl.out]; exact hlt))).2
                      have hXz : Hid (WY w xb pb (pb + 1) m bo cap B P u10 (told p) (World.setCell w2 ⟨pb, g, none⟩ (.int .i64 u))) := by
                        have h1 := hX2.out.set g u
                        rw [List.set_set, hPs.out] at h1
                        exact h1
                      have hIz : Hid (WI m B s p ((goodsEv m B c (g + 1) r s).1 ++ contZ m B c k n s0.2.2 (goodsEv m B c (g + 1) r s).2)) := hid (hI.out.re (by rw [goods_none ((both_second ht1.out).trans ht2.out)]))
                      have c0 := hX2.out.x0
                      have c1 := hX2.out.x1
                      clear hX hI kY1 kN1 kY2 kN2
                      go_wp2_with fail
                      go_roundw
                      case rel => exact ⟨g + 1, s, p, b, by omega, by rw [hnw.out], rfl, by go_num, hid (by rw [hr2.out]; exact hIz.out), hid (by rw [hPP.out]; exact hXz.out), hb⟩
                      case measure => simp [intOf]; omega
                · have ht1 := hid (ko1.out (by omega))
                  have hn1 : nw ≥ nw := Int.le_refl _
                  obtain ⟨uy, pcy⟩ : ∃ uy, (World.cell? wr ⟨pb, g, none⟩) = some (.int .i64 uy) := ⟨_, (hX.out.own.cell (i := g) (by first | (rw [hPl.out]; exact hlt) | (rw [List.length_set, hPl.out]; exact hlt))).1⟩
                  have pfy : World.frozen? wr ⟨pb, g, none⟩ = false := (hX.out.own.cell (i := g) (by first | (rw [hPl.out]; exact hlt) | (rw [List.length_set, hPl.out]; exact hlt))).2
                  have c0 := hX.out.x0
                  have c1 := hX.out.x1
                  by_cases hS : u - c ≥ 0
                  · have hX6 : Hid (WY w xb pb (pb + 1) m bo cap B (P.set g (u - c)) u10 (told p) (World.setCell wr ⟨pb, g, none⟩ (.int .i64 (u - c)))) := by
                      have h1 := hX.out.set g (u - c)
                      try rw [List.set_set] at h1
                      exact h1
                    go_upto_region 25 with fail
                    generalize World.setCell wr ⟨pb, g, none⟩ (.int .i64 (u - c)) = w6 at *
                    have kB6 := hid (kBd.out (P.set g (u - c)) _ _ w6 (by simp only [List.length_set, hPl.out]) hX6.out)
                    clear pcy pfy c0 c1
                    have kY6 := hid (kY2.out ⟨hS, by omega⟩)
                    have kN6 := hid (kN2.out ⟨hS, by omega⟩)
                    obtain ⟨b6, hb6⟩ : ∃ b6, boundZ (P.set g (u - c)) al B = b6 := ⟨_, rfl⟩
                    rw [hb6] at kB6 kY6 kN6
                    have c0 := hX6.out.x0
                    have c1 := hX6.out.x1
                    clear hb6
                    go_wp2_with fail
                    refine kB6.out.mono ?_
                    rintro e w7 ⟨rfl, o7⟩
                    have hX7 := hid (hX6.out.olds o7)
                    clear o7 kB6 c0 c1 hX6
                    by_cases hl6 : b6 < nw
                    · have hn6 : ¬ b6 ≥ nw := by omega
                      have ht2 := hid (kY6.out hl6)
                      have ht3 := ht2.out
                      have hbt := ((both_second ht1.out).trans ht2.out)
                      obtain ⟨t, ht⟩ : ∃ t : St, ((g : Int), b6, s.2.2.set g (u - c)) = t := ⟨_, rfl⟩
                      have hT1 : Hid (t.1 = (g : Int)) := by rw [← ht]; exact rfl
                      have hT2 : Hid (t.2.1 = b6) := by rw [← ht]; exact rfl
                      have hT3 : Hid (t.2.2 = s.2.2.set g (u - c)) := by rw [← ht]; exact rfl
                      rw [ht] at ht3 hbt
                      clear ht
                      have hIz : Hid (WI m B t (p ++ [t]) ((goodsEv m B c (g + 1) r t).1 ++ contZ m B c k n s0.2.2 (goodsEv m B c (g + 1) r t).2)) := hid ((hI.out.re (rest' := t :: ((goodsEv m B c (g + 1) r t).1 ++ contZ m B c k n s0.2.2 (goodsEv m B c (g + 1) r t).2)) (by rw [goods_some hbt]; simp only [List.cons_append])).tell (tryZ_ok hI.out.ok ht3) (try_inv ht3).1)
                      have hpl := hI.out.len hm10
                      have hsz := hX7.out.sz
                      have c0 := hX7.out.x0
                      have c1 := hX7.out.x1
                      have oz : Old w7 (World.alloc w7 (.cells #[.int .i64 (g : Int), .int .i64 b6] 96)) := (Old.refl _).alloc _
                      have hz := heap_new w7 (.cells #[.int .i64 (g : Int), .int .i64 b6] 96)
                      have kz0 : Hid ((World.alloc w7 (.cells #[.int .i64 (g : Int), .int .i64 b6] 96)).cell? ⟨(World.heap w7).size, 0, none⟩ = some (.int .i64 (g : Int))) := blk_cells hz rfl
                      have kz1 : Hid ((World.alloc w7 (.cells #[.int .i64 (g : Int), .int .i64 b6] 96)).cell? ⟨(World.heap w7).size, 1, none⟩ = some (.int .i64 b6)) := blk_cells hz rfl
                      have hXz := hid (hX7.out.olds oz)
                      have hlb : Hid (b6 < s0.2.1) := by
                        show b6 < s0.2.1
                        have h9 := hnw.out
                        rcases hb.out with ⟨-, e⟩ | ⟨-, e⟩
                        · rw [← e]; omega
                        · omega
                      clear hz oz ht3 hbt hX hI kY1 kN1 kY2 kN2 hb
                      go_wp2_with (at_builtin; refine wpAppT (by rfl) _ _ (by rfl) (pb + 1) u10 (World.heap w7).size 1 (told p) ((g : Int), b6) (by rfl) (by rfl) hXz.out.row kz0.out kz1.out (by omega) hXz.out.sz ?_)
                      intro v5 w5 r5 g5
                      have hX5 : Hid (WY w xb pb (pb + 1) m bo cap B (P.set g (u - c)) v5 (told p ++ [((g : Int), b6)]) w5) := hid (hXz.out.grow (L' := told p ++ [((g : Int), b6)]) g5 (by rw [List.length_append]; exact r5))
                      clear g5 r5 hXz kz0 kz1
                      go_wp2_with fail
                      go_roundw
                      case rel => exact ⟨g + 1, t, p ++ [t], true, by omega, by rw [hT2.out], rfl, by go_num, hid (by rw [hr2.out]; exact hIz.out), hid (by rw [told_snoc, hT1.out, hT2.out, hT3.out, htk.out]; exact hX5.out), hid (Or.inr ⟨rfl, by rw [hT2.out]; exact hlb.out⟩)⟩
                      case measure => simp [intOf]; omega
                    · have hn6 : b6 ≥ nw := by omega
                      have ht2 := hid (kN6.out (by omega))
                      obtain ⟨uz, pcz⟩ : ∃ uz, (World.cell? w7 ⟨pb, g, none⟩) = some (.int .i64 uz) := ⟨_, (hX7.out.own.cell (i := g) (by first | (rw [hPl.out]; exact hlt) | (rw [List.length_set, hPl.out]; exact hlt))).1⟩
                      have pfz : World.frozen? w7 ⟨pb, g, none⟩ = false := (hX7.out.own.cell (i := g) (by first | (rw [hPl.out]; exact hlt) | (rw [List.length_set, hPl.out]; exact hlt))).2
                      have hXz : Hid (WY w xb pb (pb + 1) m bo cap B P u10 (told p) (World.setCell w7 ⟨pb, g, none⟩ (.int .i64 u))) := by
                        have h1 := hX7.out.set g u
                        rw [List.set_set, hPs.out] at h1
                        exact h1
                      have hIz : Hid (WI m B s p ((goodsEv m B c (g + 1) r s).1 ++ contZ m B c k n s0.2.2 (goodsEv m B c (g + 1) r s).2)) := hid (hI.out.re (by rw [goods_none ((both_second ht1.out).trans ht2.out)]))
                      have c0 := hX7.out.x0
                      have c1 := hX7.out.x1
                      clear hX hI kY1 kN1 kY2 kN2
                      go_wp2_with fail
                      go_roundw
                      case rel => exact ⟨g + 1, s, p, b, by omega, by rw [hnw.out], rfl, by go_num, hid (by rw [hr2.out]; exact hIz.out), hid (by rw [hPP.out]; exact hXz.out), hb⟩
                      case measure => simp [intOf]; omega
                  · have ht2 := hid (ko2.out (by omega))
                    obtain ⟨uz, pcz⟩ : ∃ uz, (World.cell? wr ⟨pb, g, none⟩) = some (.int .i64 uz) := ⟨_, (hX.out.own.cell (i := g) (by first | (rw [hPl.out]; exact hlt) | (rw [List.length_set, hPl.out]; exact hlt))).1⟩
                    have pfz : World.frozen? wr ⟨pb, g, none⟩ = false := (hX.out.own.cell (i := g) (by first | (rw [hPl.out]; exact hlt) | (rw [List.length_set, hPl.out]; exact hlt))).2
                    have hXz : Hid (WY w xb pb (pb + 1) m bo cap B P u10 (told p) (World.setCell wr ⟨pb, g, none⟩ (.int .i64 u))) := by
                      have h1 := hX.out.set g u
                      rw [hPs.out] at h1
                      exact h1
                    have hIz : Hid (WI m B s p ((goodsEv m B c (g + 1) r s).1 ++ contZ m B c k n s0.2.2 (goodsEv m B c (g + 1) r s).2)) := hid (hI.out.re (by rw [goods_none ((both_second ht1.out).trans ht2.out)]))
                    have c0 := hX.out.x0
                    have c1 := hX.out.x1
                    clear hX hI kY1 kN1 kY2 kN2
                    go_wp2_with fail
                    go_roundw
                    case rel => exact ⟨g + 1, s, p, b, by omega, by rw [hnw.out], rfl, by go_num, hid (by rw [hr2.out]; exact hIz.out), hid (by rw [hPP.out]; exact hXz.out), hb⟩
                    case measure => simp [intOf]; omega
              · obtain rfl : g = m := by omega
                rw [Nat.sub_self] at hI
                have hI3 : Hid (WI g B s p (contZ g B c k n s0.2.2 s)) := hid (hI.out.re (by rw [goodsEv, List.nil_append]))
                clear hI
                cases b with
                | false =>
                  have hI4 : Hid (WI g B s p (stepEv g B k s).1) := hid (hI3.out.re (cont_yes (by
                    rcases hb.out with ⟨-, e⟩ | ⟨e, -⟩
                    · rw [e]
                    · cases e)))
                  have hch2 := hch.out
                  clear hI3 hb
                  go_wp2_with fail
                  go_roundw
                  case rel => exact ⟨k, s, p, by omega, rfl, by rw [hch.out], hI4, hX⟩
                  case measure => have := hcl.out; have := hc1; simp [intOf]; omega
                | true =>
                  have hI4 : Hid (WI g B s p ((passEv g B c n s).1 ++ (stepEv g B k (passEv g B c n s).2).1)) := hid (hI3.out.re (cont_no (stays_not hI3.out.inv hv0.out (by
                    rcases hb.out with ⟨e, -⟩ | ⟨-, e⟩
                    · cases e
                    · exact e))))
                  clear hI3 hb
                  go_wp2_with fail
                  go_roundw
                  case rel => exact ⟨n, s, p, by omega, rfl, by rw [htn.out]; go_num, hI4, hX⟩
                  case measure => simp [intOf]; omega
  · have hzb : (insZ gd B != 0) = true := by simpa using hz
    have kz := hid hz
    clear hz
    go_wp2_with fail
    refine bodyPost_ret ?_ rfl ⟨ko2.out, Or.inr ⟨kz.out, rfl⟩⟩
    simp [results, Tryd.f26, go_sem]
end Go.Proofs.YtfiogkmgenodgaaDoor
