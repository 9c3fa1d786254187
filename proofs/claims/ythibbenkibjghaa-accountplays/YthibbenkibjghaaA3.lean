/- Hold, Release, Pay, Take, Bring, Can: walked. -/
import Derived.Test.YthibbenkibjghaaA2
namespace Go.Proofs.Ythibbenkibjghaa
open Go.RowKit Go.Lib Go.Maps

def holdZ (bud sp : Int) (R : List Hd) (x c : Int) : Int := refZ x c (bud - sp - sumR R + atR R x) 8
def holdR (bud sp : Int) (R : List Hd) (x c : Int) : List Hd := if holdZ bud sp R x c = 0 then insR R x c else R
def relZ (R : List Hd) (x : Int) : Int := refZ x 0 (atR R x) 8
def relV (R : List Hd) (x : Int) : Int := if relZ R x = 0 then atR R x else 0
def relR (R : List Hd) (x : Int) : List Hd := if relZ R x = 0 then insR R x 0 else R
def payZ (R : List Hd) (x c : Int) : Int := refZ x c (atR R x) 8
def payR (R : List Hd) (x c : Int) : List Hd := if payZ R x c = 0 then insR R x 0 else R
def payS (sp : Int) (R : List Hd) (x c : Int) : Int := if payZ R x c = 0 then sp + c else sp
def takZ (bud sp : Int) (R : List Hd) (c : Int) : Int := refZ 0 c (bud - sp - sumR R) 8
def takS (bud sp : Int) (R : List Hd) (c : Int) : Int := if takZ bud sp R c = 0 then sp + c else sp
def briZ (bud c : Int) : Int := refZ 0 c (1099511627776 - bud) 2
def briB (bud c : Int) : Int := if briZ bud c = 0 then bud + c else bud

theorem refZ_zero {x c most above : Int} (ha : above ≠ 0) (h : refZ x c most above = 0) : 0 ≤ x ∧ cB c ∧ c ≤ most := by
  unfold refZ at h
  split at h
  · cases h
  · rename_i h1
    split at h
    · exact absurd h ha
    · refine ⟨by rcases Int.lt_or_le x 0 with e | e; exact absurd (Or.inl e) h1; exact e, Decidable.byContradiction (fun e => h1 (Or.inr e)), by omega⟩

/-- What a call does keeps what may be. -/
theorem OkA.holdR {bud sp : Int} {R : List Hd} (h : OkA bud sp R) {x c : Int} (hx : i64ok x) : OkA bud sp (holdR bud sp R x c) := by
  unfold Go.Proofs.Ythibbenkibjghaa.holdR
  split
  · rename_i e
    obtain ⟨h1, h2, h3⟩ := refZ_zero (by decide) e
    exact h.hold ⟨h1, hx.2⟩ h2 h3
  · exact h
theorem OkA.relR {bud sp : Int} {R : List Hd} (h : OkA bud sp R) {x : Int} (hx : i64ok x) : OkA bud sp (relR R x) := by
  unfold Go.Proofs.Ythibbenkibjghaa.relR
  split
  · rename_i e
    obtain ⟨h1, h2, h3⟩ := refZ_zero (by decide) e
    exact h.hold ⟨h1, hx.2⟩ h2 (by have := h.le; omega)
  · exact h
theorem OkA.payR {bud sp : Int} {R : List Hd} (h : OkA bud sp R) {x c : Int} (hx : i64ok x) : OkA bud (payS sp R x c) (payR R x c) := by
  unfold Go.Proofs.Ythibbenkibjghaa.payR payS
  split
  · rename_i e
    obtain ⟨h1, h2, h3⟩ := refZ_zero (by decide) e
    have h4 := h.hold (x := x) (c := 0) ⟨h1, hx.2⟩ (by unfold cB; omega) (by have := h.le; have := (h.at_b x).1; omega)
    refine ⟨h4.r, h.b, ?_, ?_⟩
    · have := h.s; unfold cB at h2; omega
    · rw [ins_sum h.r]
      have := h.le
      omega
  · exact h
theorem OkA.takS {bud sp : Int} {R : List Hd} (h : OkA bud sp R) {c : Int} : OkA bud (takS bud sp R c) R := by
  unfold Go.Proofs.Ythibbenkibjghaa.takS
  split
  · rename_i e
    obtain ⟨h1, h2, h3⟩ := refZ_zero (by decide) e
    refine ⟨h.r, h.b, ?_, by omega⟩
    have := h.s; unfold cB at h2; omega
  · exact h
theorem OkA.briB {bud sp : Int} {R : List Hd} (h : OkA bud sp R) {c : Int} : OkA (briB bud c) sp R := by
  unfold Go.Proofs.Ythibbenkibjghaa.briB
  split
  · rename_i e
    obtain ⟨h1, h2, h3⟩ := refZ_zero (by decide) e
    have := h.b
    have := h.le
    unfold cB at *
    exact ⟨h.r, by unfold cB; omega, h.s, by omega⟩
  · exact h


set_option maxRecDepth 100000 in
set_option maxHeartbeats 2000000 in
theorem hold_any (ab bi bm : Nat) (bud sp : Int) (R : List Hd) (x c : Int) (w : World) (h : Acc w ab bi bm bud sp R) (hb : OkA bud sp R) (hx : i64ok x) :
    Calls Try.prog 30 #[.pointer (some ⟨ab, 0, none⟩), .int .i64 x, .int .i64 c] w fun e w' => e = .returned (.int .i64 (holdZ bud sp R x c)) ∧ Acc w' ab bi bm bud sp (holdR bud sp R x c) ∧ Frm (fun k => k = bi ∨ k = bm) w w' := by
  obtain ⟨z, hz⟩ : ∃ z, holdZ bud sp R x c = z := ⟨_, rfl⟩
  obtain ⟨R', hR'⟩ : ∃ R', holdR bud sp R x c = R' := ⟨_, rfl⟩
  rw [hz, hR']
  have kR' := hid (show (if z = 0 then insR R x c else R) = R' from by rw [← hR', holdR, hz])
  have kz := hid hz
  clear hz hR'
  go_enter Try.func30, Try.ntmps30
  go_wp2_with fail
  refine (refusal_any _ _ _ _ _ _ ⟨_, rfl⟩ rfl _).mono ?_
  rintro e w1 ⟨rfl, e1⟩
  have oB : Old w w1 := by rw [e1]; exact (((Old.refl w).alloc _).alloc _).alloc _
  have kB := hid (show RB w1 (w.heap.size) (w.heap.size + 1) (w.heap.size + 2) (.pointer (some ⟨ab, 0, none⟩)) (.func (.func 53) #[.pointer (some ⟨ab, 0, none⟩)] #[]) 8 from by rw [e1]; obtain ⟨x1, x2, x3⟩ := three_cells w (.pointer (some ⟨ab, 0, none⟩)) (.func (.func 53) #[.pointer (some ⟨ab, 0, none⟩)] #[]) (.int .i64 8) 28 53 29; exact ⟨x1, x2, x3⟩)
  generalize w.heap.size = s0 at *
  clear e1
  have h1 := h.old oB
  have kR := hid (ref_room _ _ _ ab bi x c _ 8 w1 kB.out (blk_cell h1.a) (fun _ => room_any ab bi bm bud sp R x hx w1 h1 hb))
  rw [show refZ x c (bud - sp - sumR R + atR R x) 8 = z from kz.out] at kR
  have k1 := hid h1
  have ko := hid oB
  have c0 := blk_cell h1.a
  clear h h1 oB kB
  go_wp2_with fail
  refine kR.out.mono ?_
  rintro e w' ⟨rfl, e2⟩
  rw [e2]
  clear e2 kR
  by_cases hz : z = 0
  · subst hz
    obtain rfl := (if_pos rfl).symm.trans kR'.out
    obtain ⟨h1, h2, h3⟩ := refZ_zero (by decide) kz.out
    have kP := hid (put_any bi bm bud sp R x c w1 k1.out.ins hb.r hx h2 hb.bounds.2.2.2.2.2.1)
    clear h2
    go_wp2_with fail
    refine kP.out.mono ?_
    rintro e w2 ⟨rfl, hi, hf⟩
    have ki := hid hi
    have kf := hid hf
    clear hi hf
    go_wp2_with fail
    go_ret
    exact ⟨rfl, k1.out.step kf.out ki.out, Frm.trans (ko.out.mono (fun _ _ h => h.elim)) kf.out (fun _ _ h => h)⟩
  · obtain rfl := (if_neg hz).symm.trans kR'.out
    have hz' : (z != 0) = true := by simpa using hz
    clear hz
    go_wp2_with fail
    go_ret
    exact ⟨rfl, k1.out, ko.out.mono (fun _ _ h => h.elim)⟩

set_option maxRecDepth 100000 in
set_option maxHeartbeats 2000000 in
theorem can_any (ab bi bm : Nat) (bud sp : Int) (R : List Hd) (x c : Int) (w : World) (h : Acc w ab bi bm bud sp R) (hb : OkA bud sp R) (hx : i64ok x) :
    Calls Try.prog 26 #[.pointer (some ⟨ab, 0, none⟩), .int .i64 x, .int .i64 c] w fun e w' => e = .returned (.bool (holdZ bud sp R x c == 0)) ∧ Old w w' := by
  obtain ⟨z, hz⟩ : ∃ z, holdZ bud sp R x c = z := ⟨_, rfl⟩
  rw [hz]
  have kz := hid hz
  clear hz
  go_enter Try.func26, Try.ntmps26
  go_wp2_with fail
  refine (refusal_any _ _ _ _ _ _ ⟨_, rfl⟩ rfl _).mono ?_
  rintro e w1 ⟨rfl, e1⟩
  have oB : Old w w1 := by rw [e1]; exact (((Old.refl w).alloc _).alloc _).alloc _
  have kB := hid (show RB w1 (w.heap.size) (w.heap.size + 1) (w.heap.size + 2) (.pointer (some ⟨ab, 0, none⟩)) (.func (.func 53) #[.pointer (some ⟨ab, 0, none⟩)] #[]) 8 from by rw [e1]; obtain ⟨x1, x2, x3⟩ := three_cells w (.pointer (some ⟨ab, 0, none⟩)) (.func (.func 53) #[.pointer (some ⟨ab, 0, none⟩)] #[]) (.int .i64 8) 28 53 29; exact ⟨x1, x2, x3⟩)
  generalize w.heap.size = s0 at *
  clear e1
  have h1 := h.old oB
  have kR := hid (ref_room _ _ _ ab bi x c _ 8 w1 kB.out (blk_cell h1.a) (fun _ => room_any ab bi bm bud sp R x hx w1 h1 hb))
  rw [show refZ x c (bud - sp - sumR R + atR R x) 8 = z from kz.out] at kR
  have ko := hid oB
  clear h h1 oB kB
  go_wp2_with fail
  refine kR.out.mono ?_
  rintro e w' ⟨rfl, e2⟩
  rw [e2]
  clear e2 kR
  go_wp2_with fail
  go_ret
  exact ⟨rfl, ko.out⟩

set_option maxRecDepth 100000 in
set_option maxHeartbeats 2000000 in
theorem rel_any (ab bi bm : Nat) (bud sp : Int) (R : List Hd) (x : Int) (w : World) (h : Acc w ab bi bm bud sp R) (hb : OkA bud sp R) (hx : i64ok x) :
    Calls Try.prog 43 #[.pointer (some ⟨ab, 0, none⟩), .int .i64 x] w fun e w' => e = .returned (.tuple #[.int .i64 (relV R x), .int .i64 (relZ R x)]) ∧ Acc w' ab bi bm bud sp (relR R x) ∧ Frm (fun k => k = bi ∨ k = bm) w w' := by
  obtain ⟨z, hz⟩ : ∃ z, relZ R x = z := ⟨_, rfl⟩
  obtain ⟨V', hV'⟩ : ∃ V', relV R x = V' := ⟨_, rfl⟩
  obtain ⟨R', hR'⟩ : ∃ R', relR R x = R' := ⟨_, rfl⟩
  rw [hz, hV', hR']
  have kV' := hid (show (if z = 0 then atR R x else 0) = V' from by rw [← hV', relV, hz])
  have kR' := hid (show (if z = 0 then insR R x 0 else R) = R' from by rw [← hR', relR, hz])
  have kz := hid hz
  clear hz hV' hR'
  go_enter Try.func43, Try.ntmps43
  go_wp2_with fail
  refine (refusal_any _ _ _ _ _ _ ⟨_, rfl⟩ rfl _).mono ?_
  rintro e w1 ⟨rfl, e1⟩
  have oB : Old w w1 := by rw [e1]; exact (((Old.refl w).alloc _).alloc _).alloc _
  have kB := hid (show RB w1 (w.heap.size) (w.heap.size + 1) (w.heap.size + 2) (.pointer (some ⟨ab, 0, none⟩)) (.func (.func 25) #[.pointer (some ⟨ab, 0, none⟩)] #[]) 8 from by rw [e1]; obtain ⟨x1, x2, x3⟩ := three_cells w (.pointer (some ⟨ab, 0, none⟩)) (.func (.func 25) #[.pointer (some ⟨ab, 0, none⟩)] #[]) (.int .i64 8) 28 53 29; exact ⟨x1, x2, x3⟩)
  generalize w.heap.size = s0 at *
  clear e1
  have h1 := h.old oB
  have kR := hid (ref_at _ _ _ ab bi x 0 _ 8 w1 kB.out (blk_cell h1.a) (fun _ => at_any ab bi bm bud sp R x hx w1 h1))
  have kA := hid (at_any ab bi bm bud sp R x hx w1 h1)
  rw [show refZ x 0 (atR R x) 8 = z from kz.out] at kR
  have k1 := hid h1
  have ko := hid oB
  have c0 := blk_cell h1.a
  clear h h1 oB kB
  go_wp2_with fail
  refine kR.out.mono ?_
  rintro e w' ⟨rfl, e2⟩
  rw [e2]
  clear e2 kR
  by_cases hz : z = 0
  · subst hz
    obtain rfl := (if_pos rfl).symm.trans kV'.out
    obtain rfl := (if_pos rfl).symm.trans kR'.out
    have kP := hid (put_any bi bm bud sp R x 0 w1 k1.out.ins hb.r hx (by unfold cB; omega) hb.bounds.2.2.2.2.2.1)
    go_wp2_with fail
    refine kA.out.mono ?_
    rintro e w' ⟨rfl, e2⟩
    rw [e2]
    clear e2 kA
    go_wp2_with fail
    refine kP.out.mono ?_
    rintro e w2 ⟨rfl, hi, hf⟩
    have ki := hid hi
    have kf := hid hf
    clear hi hf
    go_wp2_with fail
    go_ret2
    exact ⟨rfl, k1.out.step kf.out ki.out, Frm.trans (ko.out.mono (fun _ _ h => h.elim)) kf.out (fun _ _ h => h)⟩
  · obtain rfl := (if_neg hz).symm.trans kV'.out
    obtain rfl := (if_neg hz).symm.trans kR'.out
    have hz' : (z != 0) = true := by simpa using hz
    clear hz
    go_wp2_with fail
    go_ret2
    exact ⟨rfl, k1.out, ko.out.mono (fun _ _ h => h.elim)⟩

/-- Its spent number is another one. -/
theorem Ins.spent {w : World} {bi bm : Nat} {bud sp : Int} {R : List Hd} (h : Ins w bi bm bud sp R) (s : Int) : Ins (w.setCell ⟨bi, 1, none⟩ (.int .i64 s)) bi bm bud s R :=
  ⟨heap_set (i := 1) (.int .i64 s) h.i, h.m.kept (frm_set w bi 1 _) (fun e => h.ne e.symm)⟩
theorem Ins.budget {w : World} {bi bm : Nat} {bud sp : Int} {R : List Hd} (h : Ins w bi bm bud sp R) (s : Int) : Ins (w.setCell ⟨bi, 0, none⟩ (.int .i64 s)) bi bm s sp R :=
  ⟨heap_set (i := 0) (.int .i64 s) h.i, h.m.kept (frm_set w bi 0 _) (fun e => h.ne e.symm)⟩

set_option maxRecDepth 100000 in
set_option maxHeartbeats 2000000 in
theorem pay_any (ab bi bm : Nat) (bud sp : Int) (R : List Hd) (x c : Int) (w : World) (h : Acc w ab bi bm bud sp R) (hb : OkA bud sp R) (hx : i64ok x) :
    Calls Try.prog 45 #[.pointer (some ⟨ab, 0, none⟩), .int .i64 x, .int .i64 c] w fun e w' => e = .returned (.int .i64 (payZ R x c)) ∧ Acc w' ab bi bm bud (payS sp R x c) (payR R x c) ∧ Frm (fun k => k = bi ∨ k = bm) w w' := by
  obtain ⟨z, hz⟩ : ∃ z, payZ R x c = z := ⟨_, rfl⟩
  obtain ⟨S', hS'⟩ : ∃ S', payS sp R x c = S' := ⟨_, rfl⟩
  obtain ⟨R', hR'⟩ : ∃ R', payR R x c = R' := ⟨_, rfl⟩
  rw [hz, hS', hR']
  have kS' := hid (show (if z = 0 then sp + c else sp) = S' from by rw [← hS', payS, hz])
  have kR' := hid (show (if z = 0 then insR R x 0 else R) = R' from by rw [← hR', payR, hz])
  have kz := hid hz
  clear hz hS' hR'
  go_enter Try.func45, Try.ntmps45
  go_wp2_with fail
  refine (refusal_any _ _ _ _ _ _ ⟨_, rfl⟩ rfl _).mono ?_
  rintro e w1 ⟨rfl, e1⟩
  have oB : Old w w1 := by rw [e1]; exact (((Old.refl w).alloc _).alloc _).alloc _
  have kB := hid (show RB w1 (w.heap.size) (w.heap.size + 1) (w.heap.size + 2) (.pointer (some ⟨ab, 0, none⟩)) (.func (.func 25) #[.pointer (some ⟨ab, 0, none⟩)] #[]) 8 from by rw [e1]; obtain ⟨x1, x2, x3⟩ := three_cells w (.pointer (some ⟨ab, 0, none⟩)) (.func (.func 25) #[.pointer (some ⟨ab, 0, none⟩)] #[]) (.int .i64 8) 28 53 29; exact ⟨x1, x2, x3⟩)
  generalize w.heap.size = s0 at *
  clear e1
  have h1 := h.old oB
  have kR := hid (ref_at _ _ _ ab bi x c _ 8 w1 kB.out (blk_cell h1.a) (fun _ => at_any ab bi bm bud sp R x hx w1 h1))
  rw [show refZ x c (atR R x) 8 = z from kz.out] at kR
  have k1 := hid h1
  have ko := hid oB
  have c0 := blk_cell h1.a
  clear h h1 oB kB
  go_wp2_with fail
  refine kR.out.mono ?_
  rintro e w' ⟨rfl, e2⟩
  rw [e2]
  clear e2 kR
  by_cases hz : z = 0
  · subst hz
    obtain rfl := (if_pos rfl).symm.trans kS'.out
    obtain rfl := (if_pos rfl).symm.trans kR'.out
    obtain ⟨h1, h2, h3⟩ := refZ_zero (by decide) kz.out
    have kP := hid (put_any bi bm bud sp R x 0 w1 k1.out.ins hb.r hx (by unfold cB; omega) hb.bounds.2.2.2.2.2.1)
    have hbb := hb.bounds
    have hsp : -9223372036854775808 ≤ sp + c ∧ sp + c ≤ 9223372036854775807 := by unfold cB at h2; omega
    clear h2 hbb
    go_wp2_with fail
    refine kP.out.mono ?_
    rintro e w2 ⟨rfl, hi, hf⟩
    obtain ⟨q0, q1, -, -, q4⟩ := hi.cells
    have q41 := q4 1
    have hacc := k1.out.step hf hi
    have c0' := blk_cell hacc.a
    have ki := hid (hi.spent (sp + c))
    have kf : Hid (Frm (fun k => k = bi ∨ k = bm) w1 (w2.setCell ⟨bi, 1, none⟩ (.int .i64 (sp + c)))) := Frm.trans hf (frm_set w2 bi 1 _) (fun _ _ e => Or.inl e)
    clear hi hf hacc q4
    go_wp2_with fail
    go_ret
    exact ⟨rfl, k1.out.step kf.out ki.out, Frm.trans (ko.out.mono (fun _ _ h => h.elim)) kf.out (fun _ _ h => h)⟩
  · obtain rfl := (if_neg hz).symm.trans kS'.out
    obtain rfl := (if_neg hz).symm.trans kR'.out
    have hz' : (z != 0) = true := by simpa using hz
    clear hz
    go_wp2_with fail
    go_ret
    exact ⟨rfl, k1.out, ko.out.mono (fun _ _ h => h.elim)⟩

set_option maxRecDepth 100000 in
set_option maxHeartbeats 2000000 in
theorem take1_any (b0 ab bi bm : Nat) (bud sp : Int) (R : List Hd) (x : Int) (w : World) (hc : w.cell? ⟨b0, 0, none⟩ = some (.pointer (some ⟨ab, 0, none⟩))) (h : Acc w ab bi bm bud sp R) (hb : OkA bud sp R) :
    Calls Try.prog 56 #[.int .i64 x, .pointer (some ⟨b0, 0, none⟩)] w fun e w' => e = .returned (.int .i64 (bud - sp - sumR R)) ∧ w' = w := by
  have hbb := hb.bounds
  have k1 := hid (free_any ab bi bm bud sp R w h (by omega))
  generalize bud - sp - sumR R = z at *
  clear h hb hbb
  go_enter Try.func56, Try.ntmps56
  go_wp2_with fail
  refine k1.out.mono ?_
  rintro e w' ⟨rfl, e2⟩
  rw [e2]
  clear e2
  go_wp2_with fail
  go_ret
  exact ⟨rfl, rfl⟩
set_option maxRecDepth 100000 in
set_option maxHeartbeats 2000000 in
theorem bring1_any (b0 ab bi bm : Nat) (bud sp : Int) (R : List Hd) (x : Int) (w : World) (hc : w.cell? ⟨b0, 0, none⟩ = some (.pointer (some ⟨ab, 0, none⟩))) (h : Acc w ab bi bm bud sp R) (hb : cB bud) :
    Calls Try.prog 57 #[.int .i64 x, .pointer (some ⟨b0, 0, none⟩)] w fun e w' => e = .returned (.int .i64 (1099511627776 - bud)) ∧ w' = w := by
  have c0 := blk_cell h.a
  obtain ⟨q0, -⟩ := h.ins.cells
  obtain ⟨h1, h2⟩ := hb
  clear h
  go_enter Try.func57, Try.ntmps57
  go_wp2_with fail
  go_ret
  exact ⟨rfl, rfl⟩

set_option maxRecDepth 100000 in
set_option maxHeartbeats 2000000 in
theorem take_any (ab bi bm : Nat) (bud sp : Int) (R : List Hd) (c : Int) (w : World) (h : Acc w ab bi bm bud sp R) (hb : OkA bud sp R) :
    Calls Try.prog 35 #[.pointer (some ⟨ab, 0, none⟩), .int .i64 c] w fun e w' => e = .returned (.int .i64 (takZ bud sp R c)) ∧ Acc w' ab bi bm bud (takS bud sp R c) R ∧ Frm (fun k => k = bi ∨ k = bm) w w' := by
  obtain ⟨z, hz⟩ : ∃ z, takZ bud sp R c = z := ⟨_, rfl⟩
  obtain ⟨S', hS'⟩ : ∃ S', takS bud sp R c = S' := ⟨_, rfl⟩
  rw [hz, hS']
  have kS' := hid (show (if z = 0 then sp + c else sp) = S' from by rw [← hS', takS, hz])
  have kz := hid hz
  clear hz hS'
  have o0 : Old w (w.alloc (.cells #[.pointer (some ⟨ab, 0, none⟩)] 28)) := (Old.refl w).alloc _
  have n0 := new_cell w #[.pointer (some ⟨ab, 0, none⟩)] 28 0 _ rfl
  have kw := hid (h.old o0)
  have koo := hid o0
  clear h o0
  go_enter Try.func35, Try.ntmps35
  go_wp2_with fail
  generalize w.alloc (.cells #[.pointer (some ⟨ab, 0, none⟩)] 28) = wa at *
  generalize w.heap.size = b0 at *
  go_wp2_with fail
  refine (refusal_any _ _ _ _ _ _ ⟨_, rfl⟩ rfl _).mono ?_
  rintro e w1 ⟨rfl, e1⟩
  have oB : Old wa w1 := by rw [e1]; exact (((Old.refl wa).alloc _).alloc _).alloc _
  have kB := hid (show RB w1 (wa.heap.size) (wa.heap.size + 1) (wa.heap.size + 2) (.pointer (some ⟨ab, 0, none⟩)) (.func (.func 56) #[] #[.pointer (some ⟨b0, 0, none⟩)]) 8 from by rw [e1]; obtain ⟨x1, x2, x3⟩ := three_cells wa (.pointer (some ⟨ab, 0, none⟩)) (.func (.func 56) #[] #[.pointer (some ⟨b0, 0, none⟩)]) (.int .i64 8) 28 53 29; exact ⟨x1, x2, x3⟩)
  generalize wa.heap.size = s0 at *
  clear e1
  have h1 := kw.out.old oB
  have n1 := oB.cell n0
  have kR := hid (ref_take _ _ _ ab bi b0 0 c _ 8 w1 kB.out (blk_cell h1.a) (fun _ => take1_any b0 ab bi bm bud sp R 0 w1 n1 h1 hb))
  rw [show refZ 0 c (bud - sp - sumR R) 8 = z from kz.out] at kR
  have k1 := hid h1
  have ko := hid (koo.out.trans oB)
  have c0 := blk_cell h1.a
  obtain ⟨q0, q1, -, -, q4⟩ := h1.ins.cells
  have q41 := q4 1
  clear h1 oB kB kw koo n0 q4
  go_wp2_with fail
  refine kR.out.mono ?_
  rintro e w' ⟨rfl, e2⟩
  rw [e2]
  clear e2 kR
  by_cases hz : z = 0
  · subst hz
    obtain rfl := (if_pos rfl).symm.trans kS'.out
    obtain ⟨h1, h2, h3⟩ := refZ_zero (by decide) kz.out
    have hbb := hb.bounds
    have hsp : -9223372036854775808 ≤ sp + c ∧ sp + c ≤ 9223372036854775807 := by unfold cB at h2; omega
    have hsb : -9223372036854775808 ≤ bud + c ∧ bud + c ≤ 9223372036854775807 := by unfold cB at h2; omega
    clear h2 hbb
    have ki := hid (k1.out.ins.spent (sp + c))
    have kf : Hid (Frm (fun k => k = bi ∨ k = bm) w1 (w1.setCell ⟨bi, 1, none⟩ (.int .i64 (sp + c)))) := (frm_set w1 bi 1 _).mono (fun _ _ e => Or.inl e)
    go_wp2_with fail
    go_ret
    exact ⟨rfl, k1.out.step kf.out ki.out, Frm.trans (ko.out.mono (fun _ _ h => h.elim)) kf.out (fun _ _ h => h)⟩
  · obtain rfl := (if_neg hz).symm.trans kS'.out
    have hz' : (z != 0) = true := by simpa using hz
    clear hz
    go_wp2_with fail
    go_ret
    exact ⟨rfl, k1.out, ko.out.mono (fun _ _ h => h.elim)⟩
set_option maxRecDepth 100000 in
set_option maxHeartbeats 2000000 in
theorem bring_any (ab bi bm : Nat) (bud sp : Int) (R : List Hd) (c : Int) (w : World) (h : Acc w ab bi bm bud sp R) (hb : OkA bud sp R) :
    Calls Try.prog 40 #[.pointer (some ⟨ab, 0, none⟩), .int .i64 c] w fun e w' => e = .returned (.int .i64 (briZ bud c)) ∧ Acc w' ab bi bm (briB bud c) sp R ∧ Frm (fun k => k = bi ∨ k = bm) w w' := by
  obtain ⟨z, hz⟩ : ∃ z, briZ bud c = z := ⟨_, rfl⟩
  obtain ⟨S', hS'⟩ : ∃ S', briB bud c = S' := ⟨_, rfl⟩
  rw [hz, hS']
  have kS' := hid (show (if z = 0 then bud + c else bud) = S' from by rw [← hS', briB, hz])
  have kz := hid hz
  clear hz hS'
  have o0 : Old w (w.alloc (.cells #[.pointer (some ⟨ab, 0, none⟩)] 28)) := (Old.refl w).alloc _
  have n0 := new_cell w #[.pointer (some ⟨ab, 0, none⟩)] 28 0 _ rfl
  have kw := hid (h.old o0)
  have koo := hid o0
  clear h o0
  go_enter Try.func40, Try.ntmps40
  go_wp2_with fail
  generalize w.alloc (.cells #[.pointer (some ⟨ab, 0, none⟩)] 28) = wa at *
  generalize w.heap.size = b0 at *
  go_wp2_with fail
  refine (refusal_any _ _ _ _ _ _ ⟨_, rfl⟩ rfl _).mono ?_
  rintro e w1 ⟨rfl, e1⟩
  have oB : Old wa w1 := by rw [e1]; exact (((Old.refl wa).alloc _).alloc _).alloc _
  have kB := hid (show RB w1 (wa.heap.size) (wa.heap.size + 1) (wa.heap.size + 2) (.pointer (some ⟨ab, 0, none⟩)) (.func (.func 57) #[] #[.pointer (some ⟨b0, 0, none⟩)]) 2 from by rw [e1]; obtain ⟨x1, x2, x3⟩ := three_cells wa (.pointer (some ⟨ab, 0, none⟩)) (.func (.func 57) #[] #[.pointer (some ⟨b0, 0, none⟩)]) (.int .i64 2) 28 53 29; exact ⟨x1, x2, x3⟩)
  generalize wa.heap.size = s0 at *
  clear e1
  have h1 := kw.out.old oB
  have n1 := oB.cell n0
  have kR := hid (ref_bring _ _ _ ab bi b0 0 c _ 2 w1 kB.out (blk_cell h1.a) (fun _ => bring1_any b0 ab bi bm bud sp R 0 w1 n1 h1 hb.b))
  rw [show refZ 0 c (1099511627776 - bud) 2 = z from kz.out] at kR
  have k1 := hid h1
  have ko := hid (koo.out.trans oB)
  have c0 := blk_cell h1.a
  obtain ⟨q0, q1, -, -, q4⟩ := h1.ins.cells
  have q41 := q4 0
  clear h1 oB kB kw koo n0 q4
  go_wp2_with fail
  refine kR.out.mono ?_
  rintro e w' ⟨rfl, e2⟩
  rw [e2]
  clear e2 kR
  by_cases hz : z = 0
  · subst hz
    obtain rfl := (if_pos rfl).symm.trans kS'.out
    obtain ⟨h1, h2, h3⟩ := refZ_zero (by decide) kz.out
    have hbb := hb.bounds
    have hsp : -9223372036854775808 ≤ sp + c ∧ sp + c ≤ 9223372036854775807 := by unfold cB at h2; omega
    have hsb : -9223372036854775808 ≤ bud + c ∧ bud + c ≤ 9223372036854775807 := by unfold cB at h2; omega
    clear h2 hbb
    have ki := hid (k1.out.ins.budget (bud + c))
    have kf : Hid (Frm (fun k => k = bi ∨ k = bm) w1 (w1.setCell ⟨bi, 0, none⟩ (.int .i64 (bud + c)))) := (frm_set w1 bi 0 _).mono (fun _ _ e => Or.inl e)
    go_wp2_with fail
    go_ret
    exact ⟨rfl, k1.out.step kf.out ki.out, Frm.trans (ko.out.mono (fun _ _ h => h.elim)) kf.out (fun _ _ h => h)⟩
  · obtain rfl := (if_neg hz).symm.trans kS'.out
    have hz' : (z != 0) = true := by simpa using hz
    clear hz
    go_wp2_with fail
    go_ret
    exact ⟨rfl, k1.out, ko.out.mono (fun _ _ h => h.elim)⟩
end Go.Proofs.Ythibbenkibjghaa
