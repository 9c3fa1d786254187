/- The document's Bring, Hold, Release, Pay, Take, Can: walked. -/
import Derived.Test.YthibbenkibjghaaD2
namespace Go.Proofs.Ythibbenkibjghaa
open Go.RowKit Go.Lib Go.Shelf Go.Maps
attribute [local go_sem] Oper.semAt_some

/-- The document's account, wherever its row lies. -/
def Rf (w : World) (rb : Nat) (bud sp : Int) (L : List Hd) : Prop := ∃ ao cap, Ra w rb bud sp L ao cap
theorem Rf.old {w w' : World} {rb : Nat} {bud sp : Int} {L : List Hd} (h : Rf w rb bud sp L) (o : Old w w') : Rf w' rb bud sp L := by
  obtain ⟨ao, cap, h⟩ := h
  exact ⟨ao, cap, h.old o⟩
theorem Rf.frm {S : Nat → Prop} {w w' : World} {rb : Nat} {bud sp : Int} {L : List Hd} (h : Rf w rb bud sp L) (f : Frm S w w') (h1 : ¬ S rb) (h2 : ∀ k, S k → ¬ HRow w k) : Rf w' rb bud sp L := by
  obtain ⟨ao, cap, h⟩ := h
  exact ⟨ao, cap, h.frm f h1 h2⟩
theorem Rf.self {w : World} {rb : Nat} {bud sp : Int} {L : List Hd} (h : Rf w rb bud sp L) : ¬ HRow w rb := by
  obtain ⟨ao, cap, h⟩ := h
  exact h.self
theorem Rf.lt {w : World} {rb : Nat} {bud sp : Int} {L : List Hd} (h : Rf w rb bud sp L) : rb < w.heap.size := by
  obtain ⟨ao, cap, h⟩ := h
  exact blk_lt h.blk
/-- Its first two numbers written. -/
theorem Ra.bud {w : World} {rb : Nat} {bud sp : Int} {L : List Hd} {ao : Option Addr} {cap : Nat} (h : Ra w rb bud sp L ao cap) (b : Int) : Rf (w.setCell ⟨rb, 0, none⟩ (.int .i64 b)) rb b sp L := by
  have hf := frm_set w rb 0 (.int .i64 b)
  have hne : ∀ a, ao = some a → ¬ a.block = rb := fun a e e2 => h.self (e2 ▸ h.row a e)
  exact ⟨ao, cap, by rw [heap_set _ h.blk]; rfl, h.hd.frm' hf hne, fun a e => (h.row a e).frm hf (hne a e)⟩
theorem Ra.spent {w : World} {rb : Nat} {bud sp : Int} {L : List Hd} {ao : Option Addr} {cap : Nat} (h : Ra w rb bud sp L ao cap) (s : Int) : Rf (w.setCell ⟨rb, 1, none⟩ (.int .i64 s)) rb bud s L := by
  have hf := frm_set w rb 1 (.int .i64 s)
  have hne : ∀ a, ao = some a → ¬ a.block = rb := fun a e e2 => h.self (e2 ▸ h.row a e)
  exact ⟨ao, cap, by rw [heap_set _ h.blk]; rfl, h.hd.frm' hf hne, fun a e => (h.row a e).frm hf (hne a e)⟩

theorem refZ_x {x c most above : Int} (h : x < 0) : refZ x c most above = 2 := if_pos (Or.inl h)
theorem refZ_c {x c most above : Int} (h : ¬ cB c) : refZ x c most above = 2 := if_pos (Or.inr h)
theorem refZ_m {x c most above : Int} (hx : ¬ x < 0) (h : cB c) (hm : c > most) : refZ x c most above = above := by
  unfold refZ
  rw [if_neg (by rintro (e | e); exact hx e; exact e h), if_pos hm]
theorem refZ_o9 {x c most above : Int} (hx : ¬ x < 0) (h : cB c) (hm : ¬ c > most) : refZ x c most above = 0 := by
  unfold refZ
  rw [if_neg (by rintro (e | e); exact hx e; exact e h), if_neg hm]


set_option maxRecDepth 100000 in
set_option maxHeartbeats 8000000 in
theorem rbring_any (rb : Nat) (bud sp : Int) (L : List Hd) (c : Int) (w : World) (h : Rf w rb bud sp L) (hb : OkA bud sp L) :
    Calls Try.prog 41 #[.pointer (some ⟨rb, 0, none⟩), .int .i64 c] w fun e w' => e = .returned (.int .i64 (briZ bud c)) ∧ Rf w' rb (briB bud c) sp L ∧ Frm (fun k => k = rb) w w' := by
  have kC := hid (rcoins_any c w)
  have kh := hid h
  obtain ⟨ao, cap, ha⟩ := h
  obtain ⟨c0, -, -⟩ := ha.cells
  have kf := hid (ha.bud (bud + c))
  have fz := blk_fz ha.blk 0
  have hbd := hb.bounds
  have ks : Hid (Frm (fun k => k = rb) w (w.setCell ⟨rb, 0, none⟩ (.int .i64 (bud + c)))) := frm_set w rb 0 _
  have kr : Hid (Frm (fun k => k = rb) w w) := Frm.refl _ w
  clear ha hb
  obtain ⟨h1, h2, -⟩ := hbd
  by_cases hc : cB c
  · rw [decide_eq_true hc] at kC
    by_cases hm : c > 1099511627776 - bud
    · have hz : briZ bud c = 2 := refZ_m (by omega) hc hm
      have hz2 : briB bud c = bud := by unfold briB; rw [hz]; rfl
      rw [hz, hz2]
      have hm' : bud + c > 1099511627776 := by omega
      unfold cB at hc
      clear hz hz2 hm
      go_enter Try.func41, Try.ntmps41
      go_wp2_with fail
      refine (kC.out).mono ?_
      rintro e w' ⟨rfl, e2⟩
      rw [e2]
      clear e2
      go_wp2_with fail
      go_ret
      exact ⟨rfl, kh.out, kr.out⟩
    · have hz : briZ bud c = 0 := refZ_o9 (by omega) hc hm
      have hz2 : briB bud c = bud + c := by unfold briB; rw [hz]; rfl
      rw [hz, hz2]
      have hm' : ¬ bud + c > 1099511627776 := by omega
      unfold cB at hc
      clear hz hz2 hm
      go_enter Try.func41, Try.ntmps41
      go_wp2_with fail
      refine (kC.out).mono ?_
      rintro e w' ⟨rfl, e2⟩
      rw [e2]
      clear e2
      go_wp2_with fail
      go_ret
      exact ⟨rfl, kf.out, ks.out⟩
  · rw [decide_eq_false hc] at kC
    have hz : briZ bud c = 2 := refZ_c hc
    have hz2 : briB bud c = bud := by unfold briB; rw [hz]; rfl
    rw [hz, hz2]
    clear hz hz2 hc
    go_enter Try.func41, Try.ntmps41
    go_wp2_with fail
    refine (kC.out).mono ?_
    rintro e w' ⟨rfl, e2⟩
    rw [e2]
    clear e2
    go_wp2_with fail
    go_ret
    exact ⟨rfl, kh.out, kr.out⟩

set_option maxRecDepth 100000 in
set_option maxHeartbeats 8000000 in
theorem rhold_any (rb : Nat) (bud sp : Int) (L : List Hd) (x c : Int) (w : World) (h : Rf w rb bud sp L) (hb : OkA bud sp L) :
    Calls Try.prog 42 #[.pointer (some ⟨rb, 0, none⟩), .int .i64 x, .int .i64 c] w fun e w' => e = .returned (.int .i64 (holdZ bud sp L x c)) ∧ Rf w' rb bud sp (holdR bud sp L x c) ∧ Frm (fun k => k = rb) w w' := by
  have kh := hid h
  have kb := hid hb
  obtain ⟨ao, cap, ha⟩ := h
  have hbd := hb.bounds
  have hat := hb.at_b x
  have hlen := hbd.2.2.2.2.2.2
  have ka := hid ha
  have kr : Hid (Frm (fun k => k = rb) w w) := Frm.refl _ w
  clear ha hb
  by_cases hx : x < 0
  · have hz : holdZ bud sp L x c = 2 := refZ_x hx
    have hz2 : holdR bud sp L x c = L := by unfold holdR; rw [hz]; rfl
    rw [hz, hz2]
    clear hz hz2 hbd hat hlen
    go_enter Try.func42, Try.ntmps42
    go_wp2_with fail
    go_ret
    exact ⟨rfl, kh.out, kr.out⟩
  · have kC := hid (rcoins_any c w)
    by_cases hc : cB c
    · rw [decide_eq_true hc] at kC
      have kF := hid (rfree_any rb bud sp L ao cap w ka.out kb.out)
      by_cases hm : c > bud - sp - sumR L + atR L x
      · have hz : holdZ bud sp L x c = 8 := refZ_m hx hc hm
        have hz2 : holdR bud sp L x c = L := by unfold holdR; rw [hz]; rfl
        rw [hz, hz2]
        unfold cB at hc
        clear hz hz2
        generalize hA : atR L x = A at *
        generalize hS : sumR L = Sm at *
        go_enter Try.func42, Try.ntmps42
        go_wp2_with fail
        refine (kC.out).mono ?_
        rintro e w' ⟨rfl, e2⟩
        rw [e2]
        clear e2
        go_wp2_with fail
        refine kF.out.mono ?_
        rintro e w1 ⟨rfl, o1⟩
        have kA := hid (rat_any rb bud sp L ao cap x w1 (ka.out.old o1) hlen)
        rw [hA] at kA
        have ko1 := hid o1
        clear o1
        go_wp2_with fail
        refine (kA.out).mono ?_
        rintro e w' ⟨rfl, e2⟩
        rw [e2]
        clear e2
        go_wp2_with fail
        go_ret
        exact ⟨rfl, kh.out.old ko1.out, Frm.mono ko1.out (fun _ _ e => e.elim)⟩
      · have hz : holdZ bud sp L x c = 0 := refZ_o9 hx hc hm
        have hz2 : holdR bud sp L x c = insR L x c := by unfold holdR; rw [hz]; rfl
        rw [hz, hz2]
        unfold cB at hc
        clear hz hz2
        generalize hA : atR L x = A at *
        generalize hS : sumR L = Sm at *
        go_enter Try.func42, Try.ntmps42
        go_wp2_with fail
        refine (kC.out).mono ?_
        rintro e w' ⟨rfl, e2⟩
        rw [e2]
        clear e2
        go_wp2_with fail
        refine kF.out.mono ?_
        rintro e w1 ⟨rfl, o1⟩
        have kA := hid (rat_any rb bud sp L ao cap x w1 (ka.out.old o1) hlen)
        rw [hA] at kA
        have ko1 := hid o1
        have kS := hid (rset_any rb bud sp L ao cap x c w1 (ka.out.old o1) kb.out.r hlen)
        clear o1
        go_wp2_with fail
        refine (kA.out).mono ?_
        rintro e w' ⟨rfl, e2⟩
        rw [e2]
        clear e2
        go_wp2_with fail
        refine kS.out.mono ?_
        rintro e w2 ⟨rfl, r2, f2⟩
        have kr2 := hid r2
        have kf2 := hid f2
        clear r2 f2
        go_wp2_with fail
        go_ret
        exact ⟨rfl, kr2.out, Frm.trans (Frm.mono ko1.out (fun _ _ e => e.elim)) kf2.out (fun _ _ e => e)⟩
    · rw [decide_eq_false hc] at kC
      have hz : holdZ bud sp L x c = 2 := refZ_c hc
      have hz2 : holdR bud sp L x c = L := by unfold holdR; rw [hz]; rfl
      rw [hz, hz2]
      clear hz hz2 hc hbd hat hlen
      go_enter Try.func42, Try.ntmps42
      go_wp2_with fail
      refine (kC.out).mono ?_
      rintro e w' ⟨rfl, e2⟩
      rw [e2]
      clear e2
      go_wp2_with fail
      go_ret
      exact ⟨rfl, kh.out, kr.out⟩

set_option maxRecDepth 100000 in
set_option maxHeartbeats 8000000 in
theorem rrel_any (rb : Nat) (bud sp : Int) (L : List Hd) (x : Int) (w : World) (h : Rf w rb bud sp L) (hb : OkA bud sp L) :
    Calls Try.prog 44 #[.pointer (some ⟨rb, 0, none⟩), .int .i64 x] w fun e w' => e = .returned (.tuple #[.int .i64 (relV L x), .int .i64 (relZ L x)]) ∧ Rf w' rb bud sp (relR L x) ∧ Frm (fun k => k = rb) w w' := by
  have kh := hid h
  have kb := hid hb
  obtain ⟨ao, cap, ha⟩ := h
  have hat := hb.at_b x
  have hlen := hb.bounds.2.2.2.2.2.2
  have ka := hid ha
  have kr : Hid (Frm (fun k => k = rb) w w) := Frm.refl _ w
  clear ha hb
  by_cases hx : x < 0
  · have hz : relZ L x = 2 := refZ_x hx
    have hz2 : relR L x = L := by unfold relR; rw [hz]; rfl
    have hz3 : relV L x = 0 := by unfold relV; rw [hz]; rfl
    rw [hz, hz2, hz3]
    clear hz hz2 hz3 hat hlen
    go_enter Try.func44, Try.ntmps44
    go_wp2_with fail
    go_ret2
    exact ⟨rfl, kh.out, kr.out⟩
  · have hz : relZ L x = 0 := refZ_o9 hx (by unfold cB; omega) (by omega)
    have hz2 : relR L x = insR L x 0 := by unfold relR; rw [hz]; rfl
    have hz3 : relV L x = atR L x := by unfold relV; rw [hz]; rfl
    rw [hz, hz2, hz3]
    have kA := hid (rat_any rb bud sp L ao cap x w ka.out hlen)
    have kS := hid (rset_any rb bud sp L ao cap x 0 w ka.out kb.out.r hlen)
    clear hz hz2 hz3
    generalize atR L x = A at *
    go_enter Try.func44, Try.ntmps44
    go_wp2_with fail
    refine (kA.out).mono ?_
    rintro e w' ⟨rfl, e2⟩
    rw [e2]
    clear e2
    go_wp2_with fail
    refine kS.out.mono ?_
    rintro e w2 ⟨rfl, r2, f2⟩
    have kr2 := hid r2
    have kf2 := hid f2
    clear r2 f2
    go_wp2_with fail
    go_ret2
    exact ⟨rfl, kr2.out, kf2.out⟩

set_option maxRecDepth 100000 in
set_option maxHeartbeats 8000000 in
theorem rpay_any (rb : Nat) (bud sp : Int) (L : List Hd) (x c : Int) (w : World) (h : Rf w rb bud sp L) (hb : OkA bud sp L) :
    Calls Try.prog 46 #[.pointer (some ⟨rb, 0, none⟩), .int .i64 x, .int .i64 c] w fun e w' => e = .returned (.int .i64 (payZ L x c)) ∧ Rf w' rb bud (payS sp L x c) (payR L x c) ∧ Frm (fun k => k = rb) w w' := by
  have kh := hid h
  have kb := hid hb
  obtain ⟨ao, cap, ha⟩ := h
  have hbd := hb.bounds
  have hat := hb.at_b x
  have hlen := hbd.2.2.2.2.2.2
  have ka := hid ha
  have kr : Hid (Frm (fun k => k = rb) w w) := Frm.refl _ w
  clear ha hb
  by_cases hx : x < 0
  · have hz : payZ L x c = 2 := refZ_x hx
    have hz2 : payR L x c = L := by unfold payR; rw [hz]; rfl
    have hz3 : payS sp L x c = sp := by unfold payS; rw [hz]; rfl
    rw [hz, hz2, hz3]
    clear hz hz2 hz3 hbd hat hlen
    go_enter Try.func46, Try.ntmps46
    go_wp2_with fail
    go_ret
    exact ⟨rfl, kh.out, kr.out⟩
  · have kC := hid (rcoins_any c w)
    by_cases hc : cB c
    · rw [decide_eq_true hc] at kC
      have kA := hid (rat_any rb bud sp L ao cap x w ka.out hlen)
      by_cases hm : c > atR L x
      · have hz : payZ L x c = 8 := refZ_m hx hc hm
        have hz2 : payR L x c = L := by unfold payR; rw [hz]; rfl
        have hz3 : payS sp L x c = sp := by unfold payS; rw [hz]; rfl
        rw [hz, hz2, hz3]
        unfold cB at hc
        clear hz hz2 hz3
        generalize atR L x = A at *
        go_enter Try.func46, Try.ntmps46
        go_wp2_with fail
        refine (kC.out).mono ?_
        rintro e w' ⟨rfl, e2⟩
        rw [e2]
        clear e2
        go_wp2_with fail
        refine (kA.out).mono ?_
        rintro e w' ⟨rfl, e2⟩
        rw [e2]
        clear e2
        go_wp2_with fail
        go_ret
        exact ⟨rfl, kh.out, kr.out⟩
      · have hz : payZ L x c = 0 := refZ_o9 hx hc hm
        have hz2 : payR L x c = insR L x 0 := by unfold payR; rw [hz]; rfl
        have hz3 : payS sp L x c = sp + c := by unfold payS; rw [hz]; rfl
        rw [hz, hz2, hz3]
        unfold cB at hc
        have kS := hid (rset_any rb bud sp L ao cap x 0 w ka.out kb.out.r hlen)
        clear hz hz2 hz3
        generalize atR L x = A at *
        obtain ⟨h1, h2, h3, h4, -⟩ := hbd
        go_enter Try.func46, Try.ntmps46
        go_wp2_with fail
        refine (kC.out).mono ?_
        rintro e w' ⟨rfl, e2⟩
        rw [e2]
        clear e2
        go_wp2_with fail
        refine (kA.out).mono ?_
        rintro e w' ⟨rfl, e2⟩
        rw [e2]
        clear e2
        go_wp2_with fail
        refine kS.out.mono ?_
        rintro e w2 ⟨rfl, ⟨ao2, cap2, r2⟩, f2⟩
        have c1 := r2.cells.2.1
        have fz := blk_fz r2.blk 1
        have kr2 := hid (r2.spent (sp + c))
        have kf2 := hid (Frm.trans f2 (frm_set w2 rb 1 (.int .i64 (sp + c))) (fun _ _ e => e))
        clear r2 f2
        go_wp2_with fail
        go_ret
        exact ⟨rfl, kr2.out, kf2.out⟩
    · rw [decide_eq_false hc] at kC
      have hz : payZ L x c = 2 := refZ_c hc
      have hz2 : payR L x c = L := by unfold payR; rw [hz]; rfl
      have hz3 : payS sp L x c = sp := by unfold payS; rw [hz]; rfl
      rw [hz, hz2, hz3]
      clear hz hz2 hz3 hc hbd hat hlen
      go_enter Try.func46, Try.ntmps46
      go_wp2_with fail
      refine (kC.out).mono ?_
      rintro e w' ⟨rfl, e2⟩
      rw [e2]
      clear e2
      go_wp2_with fail
      go_ret
      exact ⟨rfl, kh.out, kr.out⟩

set_option maxRecDepth 100000 in
set_option maxHeartbeats 8000000 in
theorem rtake_any (rb : Nat) (bud sp : Int) (L : List Hd) (c : Int) (w : World) (h : Rf w rb bud sp L) (hb : OkA bud sp L) :
    Calls Try.prog 47 #[.pointer (some ⟨rb, 0, none⟩), .int .i64 c] w fun e w' => e = .returned (.int .i64 (takZ bud sp L c)) ∧ Rf w' rb bud (takS bud sp L c) L ∧ Frm (fun k => k = rb) w w' := by
  have kC := hid (rcoins_any c w)
  have kh := hid h
  obtain ⟨ao, cap, ha⟩ := h
  have hbd := hb.bounds
  have ka := hid ha
  have kr : Hid (Frm (fun k => k = rb) w w) := Frm.refl _ w
  have kF := hid (rfree_any rb bud sp L ao cap w ka.out hb)
  clear ha hb
  by_cases hc : cB c
  · rw [decide_eq_true hc] at kC
    by_cases hm : c > bud - sp - sumR L
    · have hz : takZ bud sp L c = 8 := refZ_m (by omega) hc hm
      have hz2 : takS bud sp L c = sp := by unfold takS; rw [hz]; rfl
      rw [hz, hz2]
      unfold cB at hc
      clear hz hz2
      generalize sumR L = Sm at *
      go_enter Try.func47, Try.ntmps47
      go_wp2_with fail
      refine (kC.out).mono ?_
      rintro e w' ⟨rfl, e2⟩
      rw [e2]
      clear e2
      go_wp2_with fail
      refine kF.out.mono ?_
      rintro e w1 ⟨rfl, o1⟩
      have ko1 := hid o1
      clear o1
      go_wp2_with fail
      go_ret
      exact ⟨rfl, kh.out.old ko1.out, Frm.mono ko1.out (fun _ _ e => e.elim)⟩
    · have hz : takZ bud sp L c = 0 := refZ_o9 (by omega) hc hm
      have hz2 : takS bud sp L c = sp + c := by unfold takS; rw [hz]; rfl
      rw [hz, hz2]
      unfold cB at hc
      clear hz hz2
      generalize sumR L = Sm at *
      obtain ⟨h1, h2, h3, h4, -⟩ := hbd
      go_enter Try.func47, Try.ntmps47
      go_wp2_with fail
      refine (kC.out).mono ?_
      rintro e w' ⟨rfl, e2⟩
      rw [e2]
      clear e2
      go_wp2_with fail
      refine kF.out.mono ?_
      rintro e w1 ⟨rfl, o1⟩
      have c1 := (ka.out.old o1).cells.2.1
      have fz := blk_fz (ka.out.old o1).blk 1
      have kr2 := hid ((ka.out.old o1).spent (sp + c))
      have kf2 := hid (Frm.trans (Frm.mono o1 (fun _ _ e => e.elim)) (frm_set w1 rb 1 (.int .i64 (sp + c))) (fun _ _ e => e))
      clear o1
      go_wp2_with fail
      go_ret
      exact ⟨rfl, kr2.out, kf2.out⟩
  · rw [decide_eq_false hc] at kC
    have hz : takZ bud sp L c = 2 := refZ_c hc
    have hz2 : takS bud sp L c = sp := by unfold takS; rw [hz]; rfl
    rw [hz, hz2]
    clear hz hz2 hc hbd
    go_enter Try.func47, Try.ntmps47
    go_wp2_with fail
    refine (kC.out).mono ?_
    rintro e w' ⟨rfl, e2⟩
    rw [e2]
    clear e2
    go_wp2_with fail
    go_ret
    exact ⟨rfl, kh.out, kr.out⟩

set_option maxRecDepth 100000 in
set_option maxHeartbeats 8000000 in
theorem rcan_any (rb : Nat) (bud sp : Int) (L : List Hd) (x c : Int) (w : World) (h : Rf w rb bud sp L) (hb : OkA bud sp L) :
    Calls Try.prog 48 #[.pointer (some ⟨rb, 0, none⟩), .int .i64 x, .int .i64 c] w fun e w' => e = .returned (.bool (holdZ bud sp L x c == 0)) ∧ Old w w' := by
  have kb := hid hb
  obtain ⟨ao, cap, ha⟩ := h
  have kC := hid (rcopy_any rb bud sp L ao cap w ha)
  obtain ⟨z, hz⟩ : ∃ z, holdZ bud sp L x c = z := ⟨_, rfl⟩
  rw [hz]
  clear ha hb
  go_enter Try.func48, Try.ntmps48
  go_wp2_with fail
  refine kC.out.mono ?_
  rintro e w1 ⟨rfl, r1, o1⟩
  have kH := hid (rhold_any w.heap.size bud sp L x c w1 ⟨ao, cap, r1⟩ kb.out)
  rw [hz] at kH
  have ko1 := hid o1
  clear r1 o1 hz
  go_wp2_with fail
  refine kH.out.mono ?_
  rintro e w2 ⟨rfl, -, f2⟩
  have ko2 : Hid (Old w w2) := Frm.trans ko1.out f2 (fun i hi e => by omega)
  clear f2
  go_wp2_with fail
  go_ret
  exact ⟨rfl, ko2.out⟩
end Go.Proofs.Ythibbenkibjghaa
