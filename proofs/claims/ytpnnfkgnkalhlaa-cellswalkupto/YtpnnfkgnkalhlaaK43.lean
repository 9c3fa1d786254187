/- Ops that are done in one step: an arrival, and none; how an op begins, of every kind. -/
import Derived.Test.YtpnnfkgnkalhlaaJ12
namespace Go.Proofs.Ytpnnfkgnkalhlaa
open Go.RowKit Go.Lib Go.Maps
variable {G : Nat → Option Value}

theorem step4_any (ub q : Nat) (τ : Nat → Nat) (B : Names) (p : Option Addr) (s : St) (t : Nat) (ht : 8 < t) (bf bm : Nat) (w : World) (h : BenchS w τ B p s) (cf : w.cell? ⟨bf, 0, none⟩ = some (.func (.func 71) #[] #[.pointer (some ⟨bm, 0, none⟩)])) (cm : w.cell? ⟨bm, 0, none⟩ = some (.pointer (some ⟨B.gm, 0, none⟩))) (tg : τ bf = t ∧ τ bm = t) (hu : τ ub = 8) (hT : TurnC G w ub q (once1 bf) .nilFunc false) (hr : IntKind.i64.wrap (s.ar + 1) = s.ar + 1) (hq : wrap64 s.ar = s.ar) :
    Calls Try.prog 45 #[.pointer (some ⟨ub, q, none⟩)] w fun e w' => e = .returned (.tuple #[ans s.ar (decide (s.gt ≤ s.ar + 1)), .bool true]) ∧ Frm (StepF τ t 4) w w' ∧ TurnC G w' ub q (once1 bf) .nilFunc true ∧ BenchS w' τ B p { s with ar := s.ar + 1 } := by
  have ut := h.t4
  obtain ⟨tn, hn⟩ := h.gte.num
  have lgn : B.gn < w.heap.size := (Array.getElem?_eq_some_iff.1 hn).1
  have lgm : B.gm < w.heap.size := World.block_lt_of_cell? w ⟨B.gm, 0, none⟩ h.gte.ptr
  have n1 : ∀ k, τ k = t → k ≠ ub := fun k hk e => by rw [e] at hk; omega
  have n2 : ∀ k, τ k = 4 → k ≠ ub := fun k hk e => by rw [e] at hk; omega
  have n3 : B.gn ≠ bm := fun e => by rw [e] at ut; omega
  refine (step_once ub q bf _ _ .nilFunc s.ar (decide (s.gt ≤ s.ar + 1)) w hT cf (n1 _ tg.1) e71 (fun k => k = B.gn) (fun k hk => by omega) (fun e => n2 _ ut.2 e.symm) (fun _ W' => W'.heap[B.gn]? = some (.cells #[.int .i64 (s.ar + 1)] tn (0, 0)) ∧ W'.cell? ⟨B.gm, 0, none⟩ = some (.pointer (some ⟨B.gn, 0, none⟩)) ∧ W'.cell? ⟨B.gm, 1, none⟩ = some (.int .i64 s.gt)) ?_).mono ?_
  · intro W fW _
    have g0 := frm_cell fW h.gte.ptr (n2 _ ut.1)
    have g1 := frm_cell fW h.gte.opens (n2 _ ut.1)
    refine (gate_do bm B.gm B.gn s.gt s.ar W (frm_cell fW cm (n1 _ tg.2)) g0 g1 tn ((fW.block _ lgn (n2 _ ut.2)).trans hn) n3 h.gte.ne hr hq).mono ?_
    rintro e W' ⟨rfl, f, hb⟩
    exact ⟨rfl, f, hb, frm_cell f g0 (fun e => h.gte.ne e.symm), frm_cell f g1 (fun e => h.gte.ne e.symm)⟩
  · rintro e w' ⟨rfl, f, tT, m, W', lm, ⟨hb, g0, g1⟩, f3⟩
    have fB : Frm (StepF τ t 4) w w' := Frm.mono f (fun k _ hk => hk.elim (fun hk => Or.inl (by rw [hk]; exact hu)) (fun hk => Or.inr (Or.inr (by rw [hk]; exact ut.2))))
    have lb : B.gn < W'.heap.size := (Array.getElem?_eq_some_iff.1 hb).1
    exact ⟨rfl, fB, tT, h.upd4 fB (fun k hk _ => by unfold StepF at hk; omega) ⟨frm_cell f3 g0 (by simp only; omega), frm_cell f3 g1 (by simp only; omega), ⟨tn, (f3.block _ lb (by omega)).trans hb⟩, h.gte.ne⟩⟩

theorem step0_any (ub q : Nat) (τ : Nat → Nat) (B : Names) (p : Option Addr) (s : St) (t : Nat) (ht : 8 < t) (bf : Nat) (w : World) (h : BenchS w τ B p s) (cf : w.cell? ⟨bf, 0, none⟩ = some (.func (.func 64) #[] #[])) (tg : τ bf = t) (hu : τ ub = 8) (hT : TurnC G w ub q (once1 bf) .nilFunc false) :
    Calls Try.prog 45 #[.pointer (some ⟨ub, q, none⟩)] w fun e w' => e = .returned (.tuple #[ans 0 false, .bool true]) ∧ Frm (StepF τ t 8) w w' ∧ TurnC G w' ub q (once1 bf) .nilFunc true ∧ BenchS w' τ B p s := by
  refine (step_once ub q bf _ _ .nilFunc 0 false w hT cf (fun e => by rw [e] at tg; omega) e64 (fun _ => False) (fun k hk => hk.elim) (fun h => h) (fun _ _ => True) ?_).mono ?_
  · intro W fW _
    refine (idle_do W).mono ?_
    rintro e W' ⟨rfl, f⟩
    exact ⟨rfl, f, trivial⟩
  · rintro e w' ⟨rfl, f, tT, _⟩
    have fB : Frm (StepF τ t 8) w w' := Frm.mono f (fun k _ hk => hk.elim (fun hk => Or.inl (by rw [hk]; exact hu)) (fun hk => hk.elim))
    exact ⟨rfl, fB, tT, h.frm fB (fun k hk _ => by unfold StepF at hk; omega)⟩

/-- An op that has begun: its look, its put, and what is its own (tag t). -/
def Beg (w : World) (τ : Nat → Nat) (B : Names) (t wk : Nat) (kd x : Int) (l p : Value) : Prop :=
  (kd = 1 ∧ ∃ bf b1 b2 b3, l = once1 bf ∧ p = .nilFunc ∧ Box1 w B.cm wk x bf b1 b2 b3 ∧ (τ bf = t ∧ τ b1 = t ∧ τ b2 = t ∧ τ b3 = t)) ∨
  (kd = 2 ∧ ∃ bm bs bx, l = look2 bm bs bx ∧ p = put2 bm bs bx ∧ Box2 w τ t B.mm x 0 bm bs bx) ∨
  (kd = 3 ∧ ∃ bm bs bx bo ob, l = look3 bm bs bx bo ∧ p = put3 bm bs bx bo ∧ Box3 w τ t B.qm wk x none none bm bs bx bo ob) ∨
  (kd = 4 ∧ ∃ bf bm, l = once1 bf ∧ p = .nilFunc ∧ w.cell? ⟨bf, 0, none⟩ = some (.func (.func 71) #[] #[.pointer (some ⟨bm, 0, none⟩)]) ∧ w.cell? ⟨bm, 0, none⟩ = some (.pointer (some ⟨B.gm, 0, none⟩)) ∧ (τ bf = t ∧ τ bm = t)) ∨
  (kd = 5 ∧ ∃ bm bs, l = look5 bm bs ∧ p = put5 bm bs ∧ Box5 w τ t B.tm 0 bm bs) ∨
  ((kd ≠ 1 ∧ kd ≠ 2 ∧ kd ≠ 3 ∧ kd ≠ 4 ∧ kd ≠ 5) ∧ ∃ bf, l = once1 bf ∧ p = .nilFunc ∧ w.cell? ⟨bf, 0, none⟩ = some (.func (.func 64) #[] #[]) ∧ τ bf = t)

/-- New tags at new blocks: t or 7. -/
def Retag (w w' : World) (τ τ' : Nat → Nat) (t : Nat) : Prop := (∀ k, k < w.heap.size → τ' k = τ k) ∧ ∀ k, w.heap.size ≤ k → τ' k = τ k ∨ (τ' k = t ∨ τ' k = 7 ∨ τ' k = 1) ∧ k < w'.heap.size

theorem e62 : ∀ args w, (callFunc 62 args).run Try.prog w = .ok (.enter 62 args) w := enters_of Try.func62 (by kernel_rfl) rfl
theorem e49 : ∀ args w, (callFunc 49 args).run Try.prog w = .ok (.enter 49 args) w := enters_of Try.func49 (by kernel_rfl) rfl
theorem e53 : ∀ args w, (callFunc 53 args).run Try.prog w = .ok (.enter 53 args) w := enters_of Try.func53 (by kernel_rfl) rfl
theorem e50 : ∀ args w, (callFunc 50 args).run Try.prog w = .ok (.enter 50 args) w := enters_of Try.func50 (by kernel_rfl) rfl
theorem e51 : ∀ args w, (callFunc 51 args).run Try.prog w = .ok (.enter 51 args) w := enters_of Try.func51 (by kernel_rfl) rfl

theorem beg_any (τ : Nat → Nat) (B : Names) (p0 : Option Addr) (s : St) (t wk : Nat) (kd x : Int) (hkd : i64ok kd) (w : World) (h : BenchS w τ B p0 s) :
    Calls Try.prog 44 #[.pointer (some ⟨B.bb, 0, none⟩), .int .i64 wk, .agg #[.int .i64 kd, .int .i64 x]] w fun e w' => ∃ l p τ', e = .returned (.tuple #[l, p]) ∧ Old w w' ∧ Retag w w' τ τ' t ∧ Beg w' τ' B t wk kd x l p ∧ (∃ f b, l = .func f #[] b) := by
  by_cases k1 : kd = 1
  · subst k1
    refine (steps_some B.bb B.dm 62 B.cm wk 1 x (deedF B) w (fun l p w' => Old w w' ∧ ∃ τ', Retag w w' τ τ' t ∧ Beg w' τ' B t wk 1 x l p ∧ ∃ f b, l = .func f #[] b) h.c5 h.dd hkd (by simp [deedF]) e62 ?_).mono ?_
    · intro W oW
      refine (count_adding (some ⟨B.cm, 0, none⟩) wk x W).mono ?_
      rintro e W' ⟨rfl, o2, ⟨ta, a⟩, ⟨tb, b⟩, ⟨tc, c⟩, ⟨td, d⟩, z⟩
      have zW := oW.size
      have zW' := o2.size
      refine ⟨_, _, rfl, Old.trans oW o2, fun k => if W.heap.size ≤ k ∧ k < W'.heap.size then t else τ k, ⟨fun k hk => if_neg (by omega), fun k hk => ?_⟩, ?_, _, _, rfl⟩
      · by_cases e : W.heap.size ≤ k ∧ k < W'.heap.size
        · exact Or.inr ⟨Or.inl (if_pos e), e.2⟩
        · exact Or.inl (if_neg e)
      · exact Or.inl ⟨rfl, W.heap.size + 3, W.heap.size, W.heap.size + 1, W.heap.size + 2, rfl, rfl, ⟨cell_of d, cell_of a, cell_of b, cell_of c⟩, if_pos (by omega), if_pos (by omega), if_pos (by omega), if_pos (by omega)⟩
    · rintro e w' ⟨l, p, rfl, o, τ', r, b, ff⟩
      exact ⟨l, p, τ', rfl, o, r, b, ff⟩
  by_cases k2 : kd = 2
  · subst k2
    refine (steps_some B.bb B.dm 49 B.mm wk 2 x (deedF B) w (fun l p w' => Old w w' ∧ ∃ τ', Retag w w' τ τ' t ∧ Beg w' τ' B t wk 2 x l p ∧ ∃ f b, l = .func f #[] b) h.c5 h.dd hkd (by simp [deedF]) e49 ?_).mono ?_
    · intro W oW
      refine (mark_raising (some ⟨B.mm, 0, none⟩) wk x W).mono ?_
      rintro e W' ⟨rfl, o2, ⟨ta, a⟩, ⟨tb, b⟩, c, z⟩
      have zW := oW.size
      have zW' := o2.size
      refine ⟨_, _, rfl, Old.trans oW o2, fun k => if W.heap.size ≤ k ∧ k < W'.heap.size then t else τ k, ⟨fun k hk => if_neg (by omega), fun k hk => ?_⟩, ?_, _, _, rfl⟩
      · by_cases e : W.heap.size ≤ k ∧ k < W'.heap.size
        · exact Or.inr ⟨Or.inl (if_pos e), e.2⟩
        · exact Or.inl (if_neg e)
      · exact Or.inr (Or.inl ⟨rfl, W.heap.size, W.heap.size + 2, W.heap.size + 1, rfl, rfl, cell_of a, c, cell_of b, ⟨if_pos (by omega), if_pos (by omega), if_pos (by omega)⟩, by omega, by omega⟩)
    · rintro e w' ⟨l, p, rfl, o, τ', r, b, ff⟩
      exact ⟨l, p, τ', rfl, o, r, b, ff⟩
  by_cases k3 : kd = 3
  · subst k3
    refine (steps_some B.bb B.dm 53 B.qm wk 3 x (deedF B) w (fun l p w' => Old w w' ∧ ∃ τ', Retag w w' τ τ' t ∧ Beg w' τ' B t wk 3 x l p ∧ ∃ f b, l = .func f #[] b) h.c5 h.dd hkd (by simp [deedF]) e53 ?_).mono ?_
    · intro W oW
      refine (best_offering (some ⟨B.qm, 0, none⟩) wk x W).mono ?_
      rintro e W' ⟨rfl, o2, ⟨ta, a⟩, ⟨tb, b⟩, c, d, ⟨te, e5⟩, z⟩
      have zW := oW.size
      have zW' := o2.size
      refine ⟨_, _, rfl, Old.trans oW o2, fun k => if k = W.heap.size + 3 then 7 else if W.heap.size ≤ k ∧ k < W'.heap.size then t else τ k, ⟨fun k hk => (if_neg (by omega)).trans (if_neg (by omega)), fun k hk => ?_⟩, ?_, _, _, rfl⟩
      · by_cases e7 : k = W.heap.size + 3
        · exact Or.inr ⟨Or.inr (Or.inl (if_pos e7)), by omega⟩
        · by_cases e : W.heap.size ≤ k ∧ k < W'.heap.size
          · exact Or.inr ⟨Or.inl ((if_neg e7).trans (if_pos e)), e.2⟩
          · exact Or.inl ((if_neg e7).trans (if_neg e))
      · exact Or.inr (Or.inr (Or.inl ⟨rfl, W.heap.size, W.heap.size + 2, W.heap.size + 1, W.heap.size + 4, W.heap.size + 3, rfl, rfl, cell_of a, c, cell_of b, cell_of e5, d, rfl, ⟨(if_neg (by omega)).trans (if_pos (by omega)), (if_neg (by omega)).trans (if_pos (by omega)), (if_neg (by omega)).trans (if_pos (by omega)), (if_neg (by omega)).trans (if_pos (by omega)), if_pos rfl⟩, (fun a ha => by cases ha), by omega, by omega, by omega⟩))
    · rintro e w' ⟨l, p, rfl, o, τ', r, b, ff⟩
      exact ⟨l, p, τ', rfl, o, r, b, ff⟩
  by_cases k4 : kd = 4
  · subst k4
    refine (steps_some B.bb B.dm 50 B.gm wk 4 x (deedF B) w (fun l p w' => Old w w' ∧ ∃ τ', Retag w w' τ τ' t ∧ Beg w' τ' B t wk 4 x l p ∧ ∃ f b, l = .func f #[] b) h.c5 h.dd hkd (by simp [deedF]) e50 ?_).mono ?_
    · intro W oW
      refine (gate_arriving (some ⟨B.gm, 0, none⟩) wk x W).mono ?_
      rintro e W' ⟨rfl, o2, ⟨ta, a⟩, ⟨tb, b⟩, z⟩
      have zW := oW.size
      have zW' := o2.size
      refine ⟨_, _, rfl, Old.trans oW o2, fun k => if W.heap.size ≤ k ∧ k < W'.heap.size then t else τ k, ⟨fun k hk => if_neg (by omega), fun k hk => ?_⟩, ?_, _, _, rfl⟩
      · by_cases e : W.heap.size ≤ k ∧ k < W'.heap.size
        · exact Or.inr ⟨Or.inl (if_pos e), e.2⟩
        · exact Or.inl (if_neg e)
      · exact Or.inr (Or.inr (Or.inr (Or.inl ⟨rfl, W.heap.size + 1, W.heap.size, rfl, rfl, cell_of b, cell_of a, if_pos (by omega), if_pos (by omega)⟩)))
    · rintro e w' ⟨l, p, rfl, o, τ', r, b, ff⟩
      exact ⟨l, p, τ', rfl, o, r, b, ff⟩
  by_cases k5 : kd = 5
  · subst k5
    refine (steps_some B.bb B.dm 51 B.tm wk 5 x (deedF B) w (fun l p w' => Old w w' ∧ ∃ τ', Retag w w' τ τ' t ∧ Beg w' τ' B t wk 5 x l p ∧ ∃ f b, l = .func f #[] b) h.c5 h.dd hkd (by simp [deedF]) e51 ?_).mono ?_
    · intro W oW
      refine (tick_taking (some ⟨B.tm, 0, none⟩) wk x W).mono ?_
      rintro e W' ⟨rfl, o2, ⟨ta, a⟩, b, z⟩
      have zW := oW.size
      have zW' := o2.size
      refine ⟨_, _, rfl, Old.trans oW o2, fun k => if W.heap.size ≤ k ∧ k < W'.heap.size then t else τ k, ⟨fun k hk => if_neg (by omega), fun k hk => ?_⟩, ?_, _, _, rfl⟩
      · by_cases e : W.heap.size ≤ k ∧ k < W'.heap.size
        · exact Or.inr ⟨Or.inl (if_pos e), e.2⟩
        · exact Or.inl (if_neg e)
      · exact Or.inr (Or.inr (Or.inr (Or.inr (Or.inl ⟨rfl, W.heap.size, W.heap.size + 1, rfl, rfl, cell_of a, b, ⟨if_pos (by omega), if_pos (by omega)⟩, by omega⟩))))
    · rintro e w' ⟨l, p, rfl, o, τ', r, b, ff⟩
      exact ⟨l, p, τ', rfl, o, r, b, ff⟩
  refine (steps_none B.bb B.dm wk kd x (deedF B) w h.c5 h.dd hkd (by simp [deedF, k1, k2, k3, k4, k5])).mono ?_
  rintro e w' ⟨bf, rfl, o, lb, c⟩
  have lf : bf < w'.heap.size := World.block_lt_of_cell? w' ⟨bf, 0, none⟩ c
  refine ⟨_, _, fun k => if k = bf then t else τ k, rfl, o, ⟨fun k hk => if_neg (by omega), fun k hk => ?_⟩, ?_, _, _, rfl⟩
  · by_cases e : k = bf
    · exact Or.inr ⟨Or.inl (if_pos e), by omega⟩
    · exact Or.inl (if_neg e)
  · exact Or.inr (Or.inr (Or.inr (Or.inr (Or.inr ⟨⟨k1, k2, k3, k4, k5⟩, bf, rfl, rfl, c, if_pos rfl⟩))))
end Go.Proofs.Ytpnnfkgnkalhlaa
