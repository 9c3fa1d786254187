/- Same, Worths, Choice, walked. -/
import Derived.Test.YtnambpbhkehijaaDoorH6
import Derived.BigQuiet
namespace Go.Proofs.YtnambpbhkehijaaDoor
open Go.RowKit

set_option maxRecDepth 100000 in
set_option maxHeartbeats 4000000 in
theorem equal_any (ao bo : Option Addr) (ca cb : Nat) (L M : List Off) (w : World) (h : OffC w ao L) (hM : OffC w bo M) (hl : L.length ≤ 9223372036854775807) :
    Calls Tryd.prog 46 #[.slice ao L.length ca, .slice bo M.length cb] w fun e w' => e = .returned (.bool (decide (L = M))) ∧ Old w w' := by
  by_cases hlen : L.length = M.length
  · have hne : ((L.length : Int) != (M.length : Int)) = false := by rw [hlen]; simp
    have klen := hid hlen
    clear hlen
    go_enter Tryd.func46, Tryd.ntmps46
    go_wp2_with fail
    go_loopw [13] (fun t wr => ∃ k : Nat, k ≤ L.length ∧ t = .int .i64 (k : Int) ∧ Hid (L.take k = M.take k) ∧ Old w wr) (fun t _ => L.length - (intOf t).toNat)
    case atStart => exact ⟨0, Nat.zero_le _, rfl, by show _ = _; simp, Old.refl _⟩
    case round =>
      obtain ⟨k, hk, rfl, hA, oW⟩ := hrel
      by_cases hlt : k < L.length
      · have hlt2 : k < M.length := by have := klen.out; omega
        obtain ⟨g, o, rfl, d1, d1'⟩ := h k hlt
        obtain ⟨g2, o2, rfl, d2, d2'⟩ := hM k hlt2
        have e1 := oW.cell d1
        have e1' := oW.cell d1'
        have e2 := oW.cell d2
        have e2' := oW.cell d2'
        have hk' : (k : Int) < (L.length : Int) := by omega
        have hk'' : (k : Int) < (M.length : Int) := by omega
        have hst : Hid (L[k] = M[k] → L.take (k + 1) = M.take (k + 1)) := fun e => by
          show L.take (k + 1) = M.take (k + 1)
          rw [List.take_succ_eq_append_getElem hlt, List.take_succ_eq_append_getElem hlt2, hA.out, e]
        have hno : Hid (¬ L[k] = M[k] → ¬ L = M) := fun e e2 => by
          subst e2
          exact e rfl
        have koW := hid oW
        obtain ⟨x, hx⟩ : ∃ x, L[k] = x := ⟨_, rfl⟩
        obtain ⟨y, hy⟩ : ∃ y, M[k] = y := ⟨_, rfl⟩
        rw [hx] at e1 e1' hst hno
        rw [hy] at e2 e2' hst hno
        obtain ⟨xg, xc⟩ := x
        obtain ⟨yg, yc⟩ := y
        dsimp only at e1 e1' e2 e2'
        clear hx hy d1 d1' d2 d2' oW
        by_cases hg : xg = yg
        · subst hg
          by_cases hc : xc = yc
          · subst hc
            have kt := hid (hst.out rfl)
            clear hst hno
            go_wp2_with fail
            go_quiet (fail)
            go_wp2_with fail
            go_roundw
            case rel => exact ⟨k + 1, by omega, by go_num, kt, koW.out.drewN _⟩
            case measure => simp [intOf]; omega
          · have hb : (xc == yc) = false := by simpa using hc
            have kn := hid (hno.out (fun e => hc (Prod.mk.injEq _ _ _ _ ▸ e).2))
            clear hst hno hc
            go_wp2_with fail
            go_quiet (fail)
            go_wp2_with fail
            go_ret
            exact ⟨by rw [decide_eq_false kn.out]; rfl, koW.out.drewN _⟩
        · have hb : ((xg : Int) == (yg : Int)) = false := by simp; omega
          have kn := hid (hno.out (fun e => hg (Prod.mk.injEq _ _ _ _ ▸ e).1))
          clear hst hno hg
          go_wp2_with fail
          go_quiet (fail)
          go_wp2_with fail
          go_ret
          exact ⟨by rw [decide_eq_false kn.out]; rfl, koW.out.drewN _⟩
      · obtain rfl : k = L.length := by omega
        have he : Hid (L = M) := by
          have := hA.out
          rw [List.take_length, klen.out, List.take_length] at this
          exact this
        go_wp2_with fail
        go_ret
        exact ⟨by rw [decide_eq_true he.out]; rfl, oW⟩
  · have hne : ((L.length : Int) != (M.length : Int)) = true := by rw [bne_iff_ne]; omega
    have kn : Hid (¬ L = M) := fun e => hlen (by rw [e])
    go_enter Tryd.func46, Tryd.ntmps46
    go_wp2_with fail
    go_ret
    exact ⟨by rw [decide_eq_false kn.out]; rfl, Old.refl _⟩

set_option maxRecDepth 100000 in
set_option maxHeartbeats 4000000 in
theorem osame_some (ao bo : Option Addr) (ca cb : Nat) (L M : List Off) (w : World) (h : OffC w ao L) (hn : ao = none → ca = 0) (hM : OffC w bo M) (hn2 : bo = none → cb = 0) (hl : L.length ≤ 1000000) (hl2 : M.length ≤ 1000000) (h0 : L ≠ []) (h1 : M ≠ []) :
    Calls Tryd.prog 27 #[.slice ao L.length ca, .slice bo M.length cb] w fun e w' => e = .returned (.bool (decide (normL L = normL M))) ∧ Old w w' := by
  have k1 := hid (normal_some ao ca L w h hn hl h0)
  have kM := hid hM
  have k2 := hid (fun w h => normal_some bo cb M w h hn2 hl2 h1)
  clear h hM
  have hNl := hid (show True from trivial)
  go_enter Tryd.func27, Tryd.ntmps27
  go_wp2_with fail
  refine k1.out.mono ?_
  rintro e w1 ⟨o1, b1, rfl, hb1, ow1⟩
  have k22 := hid (k2.out w1 (kM.out.old o1))
  have ko1 := hid o1
  have kw1 := hid ow1
  clear k1 o1 ow1
  go_wp2_with fail
  refine k22.out.mono ?_
  rintro e w2 ⟨o2, b2, rfl, hb2, ow2⟩
  have k3 := hid (equal_any (some ⟨b1, 0, none⟩) (some ⟨b2, 0, none⟩) (normL L).length (normL M).length (normL L) (normL M) w2 (kw1.out.old o2).off ow2.off (normL_len L (by omega)))
  have ko2 := hid (ko1.out.trans o2)
  clear k22 o2 ow2 kw1 ko1
  go_wp2_with fail
  refine k3.out.mono ?_
  rintro e w3 ⟨rfl, o3⟩
  have ko3 := hid (ko2.out.trans o3)
  clear o3
  go_wp2_with fail
  go_ret
  exact ⟨rfl, ko3.out⟩

set_option maxRecDepth 100000 in
set_option maxHeartbeats 2000000 in
theorem worths_any (n : Int) (ao : Option Addr) (cap : Nat) (L : List Off) (w : World) (h : OffC w ao L) (hn : ao = none → cap = 0) (hl : L.length ≤ 1000000) :
    Calls Tryd.prog 9 #[.int .i64 n, .slice ao L.length cap] w fun e w' => ∃ v, e = .returned (.func (.func 29) #[] #[.pointer (some ⟨w.heap.size, 0, none⟩), .pointer (some ⟨w.heap.size + 1, 0, none⟩)]) ∧ w'.cell? ⟨w.heap.size, 0, none⟩ = some (.int .i64 n) ∧ w'.cell? ⟨w.heap.size + 1, 0, none⟩ = some v ∧ NewO w.heap.size w' v L ∧ Old w w' := by
  have o1 : Old w ((w.alloc (.cells #[.int .i64 n] 3)).alloc (.cells #[.slice ao L.length cap] 22)) := ((Old.refl w).alloc _).alloc _
  have b12 := boxed_two w (.int .i64 n) (.slice ao L.length cap) 3 22
  have c0 := blk_cell b12.1
  have c1 := blk_cell b12.2
  have z1 := blk_fz b12.2 0
  have kC := hid (copied_any ao cap L _ (h.old o1) hn hl)
  have hsz : ((w.alloc (.cells #[.int .i64 n] 3)).alloc (.cells #[.slice ao L.length cap] 22)).heap.size = w.heap.size + 1 + 1 := by simp only [alloc_size]
  have ko := hid o1
  clear o1 h b12
  go_enter Tryd.func9, Tryd.ntmps9
  go_wp2_with fail
  generalize (w.alloc (.cells #[.int .i64 n] 3)).alloc (.cells #[.slice ao L.length cap] 22) = w1 at *
  refine kC.out.mono ?_
  rintro e w2 ⟨v, rfl, hN, o2⟩
  have d0 := o2.cell c0
  have d1 := o2.cell c1
  have z2 : w2.frozen? ⟨w.heap.size + 1, 0, none⟩ = false := frm_frozen o2 (by show w.heap.size + 1 < w1.heap.size; omega) z1 (fun h => h)
  have hsz2 := o2.size
  have ko2 := hid (ko.out.trans o2)
  have kN := hid hN
  have hv := NewO.off hN
  obtain ⟨va, vc, rfl, -, -⟩ := hv
  clear o2 c0 c1 z1 kC ko hN
  go_wp2_with fail
  go_ret
  have f := frm_set w2 (w.heap.size + 1) 0 (.slice va L.length vc)
  refine ⟨_, rfl, ?_, set_same d1, ?_, ?_⟩
  · exact frm_cell f d0 (by show ¬ w.heap.size = w.heap.size + 1; omega)
  · rcases kN.out with ⟨e1, e2⟩ | ⟨b, cap2, e1, e2, e3, ow⟩
    · exact Or.inl ⟨e1, e2⟩
    · refine Or.inr ⟨b, cap2, e1, by omega, e3, fun i hi => ?_, fun j => ?_, Nat.lt_of_lt_of_le ow.lt f.size⟩
      · have := ow.cell i hi
        exact ⟨frm_cell f this.1 (by show ¬ b = w.heap.size + 1; omega), frm_cell f this.2 (by show ¬ b = w.heap.size + 1; omega)⟩
      · exact frm_frozen f (by exact ow.lt) (ow.fz j) (by show ¬ b = w.heap.size + 1; omega)
  · exact Frm.trans ko2.out f (fun i hi e => by omega)

/-- What a choice for an instance is worth: the answer and the error. -/
def chZ (gd : Int) (B : Ins) (c : List Int) : Int × Int := if insZ gd B ≠ 0 then (0, insZ gd B) else (worthZ gd B c, choE gd B c)

set_option maxRecDepth 100000 in
set_option maxHeartbeats 4000000 in
theorem choice_any (gd : Int) (bo co : Option Addr) (cap cc : Nat) (B : Ins) (c : List Int) (w : World) (h : InsC w bo B) (hl : B.length ≤ 9223372036854775807) (hc : NumsC .i64 w co c) (hcl : c.length ≤ 9223372036854775807) (hT : Tabs w) :
    Calls Tryd.prog 15 #[.agg #[.int .i64 gd, .slice bo B.length cap], .slice co c.length cc] w fun e w' => e = .returned (.tuple #[.int .i64 (chZ gd B c).1, .int .i64 (chZ gd B c).2]) ∧ Old w w' := by
  have o1 : Old w (w.alloc (.cells #[.int .i64 gd, .slice bo B.length cap] 35)) := (Old.refl w).alloc _
  have c0 := new_cell w #[.int .i64 gd, .slice bo B.length cap] 35 0 _ rfl
  have c1 := new_cell w #[.int .i64 gd, .slice bo B.length cap] 35 1 _ rfl
  have kI := hid (instance_any gd bo cap B _ (h.old o1) hl)
  have kh := hid (h.old o1)
  have kc := hid (hc.old o1)
  have kT := hid (hT.old o1)
  have ko := hid o1
  clear o1 h hc hT
  go_enter Tryd.func15, Tryd.ntmps15
  go_wp2_with fail
  generalize w.alloc (.cells #[.int .i64 gd, .slice bo B.length cap] 35) = w1 at *
  refine kI.out.mono ?_
  rintro e w2 ⟨rfl, o2⟩
  have d0 := o2.cell c0
  have d1 := o2.cell c1
  have ko2 := hid (ko.out.trans o2)
  by_cases hz : insZ gd B = 0
  · have kz : Hid (chZ gd B c = (worthZ gd B c, choE gd B c)) := by
      show _ = _
      rw [chZ, if_neg (by simp [hz])]
    have kW := hid (worth_any gd bo co cap cc B c w2 (kh.out.old o2) hl (kc.out.old o2) hcl (kT.out.old o2))
    rw [hz]
    clear hz o2 kI c0 c1
    go_wp2_with fail
    refine kW.out.mono ?_
    rintro e w3 ⟨rfl, o3⟩
    have ko3 := hid (ko2.out.trans o3)
    clear o3
    go_wp2_with fail
    go_ret2
    exact ⟨by rw [kz.out]; rfl, ko3.out⟩
  · have kz : Hid (chZ gd B c = (0, insZ gd B)) := by
      show _ = _
      rw [chZ, if_pos hz]
    have hzb : (insZ gd B != 0) = true := by simpa using hz
    clear hz o2 kI c0 c1
    go_wp2_with fail
    go_ret2
    exact ⟨by rw [kz.out]; rfl, ko2.out⟩
end Go.Proofs.YtnambpbhkehijaaDoor
