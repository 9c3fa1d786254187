/- asked: a step on the program's account, walked. -/
import Derived.Test.YthibbenkibjghaaA10
import Derived.Test.YthibbenkibjghaaT0
namespace Go.Proofs.Ythibbenkibjghaa
open Go.RowKit Go.Lib Go.Shelf Go.Maps
attribute [local go_sem] Oper.semAt_some

/-- A step as a value. -/
def stpV (s : Stp) : Value := .agg #[.int .i64 s.kind, .int .i64 s.who, .int .i64 s.dest, .int .i64 s.lot, .int .i64 s.coins]

/-- What a step answers, and where an account stands behind it. -/
def askZ (bud sp : Int) (R : List Hd) (s : Stp) : Int := if s.kind = 1 then briZ bud s.coins else if s.kind = 2 then holdZ bud sp R s.lot s.coins else if s.kind = 3 then relZ R s.lot else if s.kind = 4 then payZ R s.lot s.coins else if s.kind = 5 then takZ bud sp R s.coins else 0
def askV (R : List Hd) (s : Stp) : Int := if s.kind = 3 then relV R s.lot else 0
def askB (bud : Int) (s : Stp) : Int := if s.kind = 1 then briB bud s.coins else bud
def askS (bud sp : Int) (R : List Hd) (s : Stp) : Int := if s.kind = 4 then payS sp R s.lot s.coins else if s.kind = 5 then takS bud sp R s.coins else sp
def askR (bud sp : Int) (R : List Hd) (s : Stp) : List Hd := if s.kind = 2 then holdR bud sp R s.lot s.coins else if s.kind = 3 then relR R s.lot else if s.kind = 4 then payR R s.lot s.coins else R

theorem OkA.ask {bud sp : Int} {R : List Hd} (h : OkA bud sp R) (s : Stp) (hl : i64ok s.lot) : OkA (askB bud s) (askS bud sp R s) (askR bud sp R s) := by
  unfold askB askS askR
  by_cases h1 : s.kind = 1
  · simp only [h1, if_true, reduceIte, show ¬ (1 : Int) = 4 by decide, show ¬ (1 : Int) = 5 by decide, show ¬ (1 : Int) = 2 by decide, show ¬ (1 : Int) = 3 by decide]
    exact h.briB
  by_cases h2 : s.kind = 2
  · simp only [h2, reduceIte, show ¬ (2 : Int) = 1 by decide, show ¬ (2 : Int) = 4 by decide, show ¬ (2 : Int) = 5 by decide]
    exact h.holdR hl
  by_cases h3 : s.kind = 3
  · simp only [h3, reduceIte, show ¬ (3 : Int) = 1 by decide, show ¬ (3 : Int) = 2 by decide, show ¬ (3 : Int) = 4 by decide, show ¬ (3 : Int) = 5 by decide]
    exact h.relR hl
  by_cases h4 : s.kind = 4
  · simp only [h4, reduceIte, show ¬ (4 : Int) = 1 by decide, show ¬ (4 : Int) = 2 by decide, show ¬ (4 : Int) = 3 by decide]
    exact h.payR hl
  by_cases h5 : s.kind = 5
  · simp only [h5, reduceIte, show ¬ (5 : Int) = 1 by decide, show ¬ (5 : Int) = 2 by decide, show ¬ (5 : Int) = 3 by decide, show ¬ (5 : Int) = 4 by decide]
    exact h.takS
  simp only [h1, h2, h3, h4, h5, reduceIte]
  exact h

/-- What a step on an account comes to. -/
def AskP (ab bi bm : Nat) (bud sp : Int) (R : List Hd) (s : Stp) (w : World) (e : Ending) (w' : World) : Prop := e = .returned (.tuple #[.int .i64 (askZ bud sp R s), .int .i64 (askV R s)]) ∧ Acc w' ab bi bm (askB bud s) (askS bud sp R s) (askR bud sp R s) ∧ Frm (fun k => k = bi ∨ k = bm) w w'

set_option maxRecDepth 100000 in
set_option maxHeartbeats 2000000 in
theorem asked_1 (ab bi bm : Nat) (bud sp : Int) (R : List Hd) (s : Stp) (hk : s.kind = 1) (hl : i64ok s.lot) (w : World) (h : Acc w ab bi bm bud sp R) (hb : OkA bud sp R) :
    Calls Try.prog 27 #[.pointer (some ⟨ab, 0, none⟩), stpV s] w (AskP ab bi bm bud sp R s w) := by
  have eZ : askZ bud sp R s = (briZ bud s.coins) := by unfold askZ; simp [hk]
  have eV : askV R s = 0 := by unfold askV; simp [hk]
  have eB : askB bud s = (briB bud s.coins) := by unfold askB; simp [hk]
  have eS : askS bud sp R s = sp := by unfold askS; simp [hk]
  have eR : askR bud sp R s = R := by unfold askR; simp [hk]
  unfold AskP
  rw [eZ, eV, eB, eS, eR]
  clear eZ eV eB eS eR
  obtain ⟨kk, kw, kd, kl, kc⟩ := s
  dsimp only at hk hl
  subst hk
  unfold stpV
  dsimp only
  have ho : Old w (w.alloc (.cells #[.int .i64 1, .int .i64 kw, .int .i64 kd, .int .i64 kl, .int .i64 kc] 41)) := (Old.refl w).alloc _
  have kC := hid (bring_any ab bi bm bud sp R kc (w.alloc (.cells #[.int .i64 1, .int .i64 kw, .int .i64 kd, .int .i64 kl, .int .i64 kc] 41)) (h.old ho) hb)
  have ko := hid ho
  clear ho h hb hl
  go_enter Try.func27, Try.ntmps27
  go_wp2_with fail
  refine kC.out.mono ?_
  rintro e w2 ⟨rfl, a2, f2⟩
  have k2 := hid a2
  have kf := hid (Frm.trans (ko.out.mono (fun _ _ h => h.elim)) f2 (fun _ _ h => h))
  clear a2 f2
  go_wp2_with fail
  go_ret2
  exact ⟨rfl, k2.out, kf.out⟩
set_option maxRecDepth 100000 in
set_option maxHeartbeats 2000000 in
theorem asked_2 (ab bi bm : Nat) (bud sp : Int) (R : List Hd) (s : Stp) (hk : s.kind = 2) (hl : i64ok s.lot) (w : World) (h : Acc w ab bi bm bud sp R) (hb : OkA bud sp R) :
    Calls Try.prog 27 #[.pointer (some ⟨ab, 0, none⟩), stpV s] w (AskP ab bi bm bud sp R s w) := by
  have eZ : askZ bud sp R s = (holdZ bud sp R s.lot s.coins) := by unfold askZ; simp [hk]
  have eV : askV R s = 0 := by unfold askV; simp [hk]
  have eB : askB bud s = bud := by unfold askB; simp [hk]
  have eS : askS bud sp R s = sp := by unfold askS; simp [hk]
  have eR : askR bud sp R s = (holdR bud sp R s.lot s.coins) := by unfold askR; simp [hk]
  unfold AskP
  rw [eZ, eV, eB, eS, eR]
  clear eZ eV eB eS eR
  obtain ⟨kk, kw, kd, kl, kc⟩ := s
  dsimp only at hk hl
  subst hk
  unfold stpV
  dsimp only
  have ho : Old w (w.alloc (.cells #[.int .i64 2, .int .i64 kw, .int .i64 kd, .int .i64 kl, .int .i64 kc] 41)) := (Old.refl w).alloc _
  have kC := hid (hold_any ab bi bm bud sp R kl kc (w.alloc (.cells #[.int .i64 2, .int .i64 kw, .int .i64 kd, .int .i64 kl, .int .i64 kc] 41)) (h.old ho) hb hl)
  have ko := hid ho
  clear ho h hb hl
  go_enter Try.func27, Try.ntmps27
  go_wp2_with fail
  refine kC.out.mono ?_
  rintro e w2 ⟨rfl, a2, f2⟩
  have k2 := hid a2
  have kf := hid (Frm.trans (ko.out.mono (fun _ _ h => h.elim)) f2 (fun _ _ h => h))
  clear a2 f2
  go_wp2_with fail
  go_ret2
  exact ⟨rfl, k2.out, kf.out⟩
set_option maxRecDepth 100000 in
set_option maxHeartbeats 2000000 in
theorem asked_3 (ab bi bm : Nat) (bud sp : Int) (R : List Hd) (s : Stp) (hk : s.kind = 3) (hl : i64ok s.lot) (w : World) (h : Acc w ab bi bm bud sp R) (hb : OkA bud sp R) :
    Calls Try.prog 27 #[.pointer (some ⟨ab, 0, none⟩), stpV s] w (AskP ab bi bm bud sp R s w) := by
  have eZ : askZ bud sp R s = (relZ R s.lot) := by unfold askZ; simp [hk]
  have eV : askV R s = (relV R s.lot) := by unfold askV; simp [hk]
  have eB : askB bud s = bud := by unfold askB; simp [hk]
  have eS : askS bud sp R s = sp := by unfold askS; simp [hk]
  have eR : askR bud sp R s = (relR R s.lot) := by unfold askR; simp [hk]
  unfold AskP
  rw [eZ, eV, eB, eS, eR]
  clear eZ eV eB eS eR
  obtain ⟨kk, kw, kd, kl, kc⟩ := s
  dsimp only at hk hl
  subst hk
  unfold stpV
  dsimp only
  have ho : Old w (w.alloc (.cells #[.int .i64 3, .int .i64 kw, .int .i64 kd, .int .i64 kl, .int .i64 kc] 41)) := (Old.refl w).alloc _
  have kC := hid (rel_any ab bi bm bud sp R kl (w.alloc (.cells #[.int .i64 3, .int .i64 kw, .int .i64 kd, .int .i64 kl, .int .i64 kc] 41)) (h.old ho) hb hl)
  have ko := hid ho
  clear ho h hb hl
  go_enter Try.func27, Try.ntmps27
  go_wp2_with fail
  refine kC.out.mono ?_
  rintro e w2 ⟨rfl, a2, f2⟩
  have k2 := hid a2
  have kf := hid (Frm.trans (ko.out.mono (fun _ _ h => h.elim)) f2 (fun _ _ h => h))
  clear a2 f2
  go_wp2_with fail
  go_ret2
  exact ⟨rfl, k2.out, kf.out⟩
set_option maxRecDepth 100000 in
set_option maxHeartbeats 2000000 in
theorem asked_4 (ab bi bm : Nat) (bud sp : Int) (R : List Hd) (s : Stp) (hk : s.kind = 4) (hl : i64ok s.lot) (w : World) (h : Acc w ab bi bm bud sp R) (hb : OkA bud sp R) :
    Calls Try.prog 27 #[.pointer (some ⟨ab, 0, none⟩), stpV s] w (AskP ab bi bm bud sp R s w) := by
  have eZ : askZ bud sp R s = (payZ R s.lot s.coins) := by unfold askZ; simp [hk]
  have eV : askV R s = 0 := by unfold askV; simp [hk]
  have eB : askB bud s = bud := by unfold askB; simp [hk]
  have eS : askS bud sp R s = (payS sp R s.lot s.coins) := by unfold askS; simp [hk]
  have eR : askR bud sp R s = (payR R s.lot s.coins) := by unfold askR; simp [hk]
  unfold AskP
  rw [eZ, eV, eB, eS, eR]
  clear eZ eV eB eS eR
  obtain ⟨kk, kw, kd, kl, kc⟩ := s
  dsimp only at hk hl
  subst hk
  unfold stpV
  dsimp only
  have ho : Old w (w.alloc (.cells #[.int .i64 4, .int .i64 kw, .int .i64 kd, .int .i64 kl, .int .i64 kc] 41)) := (Old.refl w).alloc _
  have kC := hid (pay_any ab bi bm bud sp R kl kc (w.alloc (.cells #[.int .i64 4, .int .i64 kw, .int .i64 kd, .int .i64 kl, .int .i64 kc] 41)) (h.old ho) hb hl)
  have ko := hid ho
  clear ho h hb hl
  go_enter Try.func27, Try.ntmps27
  go_wp2_with fail
  refine kC.out.mono ?_
  rintro e w2 ⟨rfl, a2, f2⟩
  have k2 := hid a2
  have kf := hid (Frm.trans (ko.out.mono (fun _ _ h => h.elim)) f2 (fun _ _ h => h))
  clear a2 f2
  go_wp2_with fail
  go_ret2
  exact ⟨rfl, k2.out, kf.out⟩
set_option maxRecDepth 100000 in
set_option maxHeartbeats 2000000 in
theorem asked_5 (ab bi bm : Nat) (bud sp : Int) (R : List Hd) (s : Stp) (hk : s.kind = 5) (hl : i64ok s.lot) (w : World) (h : Acc w ab bi bm bud sp R) (hb : OkA bud sp R) :
    Calls Try.prog 27 #[.pointer (some ⟨ab, 0, none⟩), stpV s] w (AskP ab bi bm bud sp R s w) := by
  have eZ : askZ bud sp R s = (takZ bud sp R s.coins) := by unfold askZ; simp [hk]
  have eV : askV R s = 0 := by unfold askV; simp [hk]
  have eB : askB bud s = bud := by unfold askB; simp [hk]
  have eS : askS bud sp R s = (takS bud sp R s.coins) := by unfold askS; simp [hk]
  have eR : askR bud sp R s = R := by unfold askR; simp [hk]
  unfold AskP
  rw [eZ, eV, eB, eS, eR]
  clear eZ eV eB eS eR
  obtain ⟨kk, kw, kd, kl, kc⟩ := s
  dsimp only at hk hl
  subst hk
  unfold stpV
  dsimp only
  have ho : Old w (w.alloc (.cells #[.int .i64 5, .int .i64 kw, .int .i64 kd, .int .i64 kl, .int .i64 kc] 41)) := (Old.refl w).alloc _
  have kC := hid (take_any ab bi bm bud sp R kc (w.alloc (.cells #[.int .i64 5, .int .i64 kw, .int .i64 kd, .int .i64 kl, .int .i64 kc] 41)) (h.old ho) hb)
  have ko := hid ho
  clear ho h hb hl
  go_enter Try.func27, Try.ntmps27
  go_wp2_with fail
  refine kC.out.mono ?_
  rintro e w2 ⟨rfl, a2, f2⟩
  have k2 := hid a2
  have kf := hid (Frm.trans (ko.out.mono (fun _ _ h => h.elim)) f2 (fun _ _ h => h))
  clear a2 f2
  go_wp2_with fail
  go_ret2
  exact ⟨rfl, k2.out, kf.out⟩
set_option maxRecDepth 100000 in
set_option maxHeartbeats 2000000 in
theorem asked_any (ab bi bm : Nat) (bud sp : Int) (R : List Hd) (s : Stp) (hl : i64ok s.lot) (w : World) (h : Acc w ab bi bm bud sp R) (hb : OkA bud sp R) :
    Calls Try.prog 27 #[.pointer (some ⟨ab, 0, none⟩), stpV s] w (AskP ab bi bm bud sp R s w) := by
  by_cases h1 : s.kind = 1
  · exact asked_1 ab bi bm bud sp R s h1 hl w h hb
  by_cases h2 : s.kind = 2
  · exact asked_2 ab bi bm bud sp R s h2 hl w h hb
  by_cases h3 : s.kind = 3
  · exact asked_3 ab bi bm bud sp R s h3 hl w h hb
  by_cases h4 : s.kind = 4
  · exact asked_4 ab bi bm bud sp R s h4 hl w h hb
  by_cases h5 : s.kind = 5
  · exact asked_5 ab bi bm bud sp R s h5 hl w h hb
  unfold AskP
  rw [show askZ bud sp R s = 0 by unfold askZ; simp [h1, h2, h3, h4, h5], show askV R s = 0 by unfold askV; simp [h3], show askB bud s = bud by unfold askB; simp [h1], show askS bud sp R s = sp by unfold askS; simp [h4, h5], show askR bud sp R s = R by unfold askR; simp [h2, h3, h4]]
  obtain ⟨kk, kw, kd, kl, kc⟩ := s
  dsimp only at h1 h2 h3 h4 h5 hl
  unfold stpV
  dsimp only
  have ho : Old w (w.alloc (.cells #[.int .i64 kk, .int .i64 kw, .int .i64 kd, .int .i64 kl, .int .i64 kc] 41)) := (Old.refl w).alloc _
  have ka := hid (h.old ho)
  have ko := hid ho
  have e1 : (kk == 1) = false := by simpa using h1
  have e2 : (kk == 2) = false := by simpa using h2
  have e3 : (kk == 3) = false := by simpa using h3
  have e4 : (kk == 4) = false := by simpa using h4
  have e5 : (kk == 5) = false := by simpa using h5
  clear ho h hb hl h1 h2 h3 h4 h5
  go_enter Try.func27, Try.ntmps27
  go_wp2_with fail
  go_ret2
  exact ⟨rfl, ka.out, ko.out.mono (fun _ _ h => h.elim)⟩
end Go.Proofs.Ythibbenkibjghaa
