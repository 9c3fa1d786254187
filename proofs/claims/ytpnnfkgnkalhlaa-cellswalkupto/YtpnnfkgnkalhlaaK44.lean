/- A step of an op, of every kind. -/
import Derived.Test.YtpnnfkgnkalhlaaK43
namespace Go.Proofs.Ytpnnfkgnkalhlaa
open Go.RowKit Go.Lib Go.Maps
variable {G : Nat → Option Value}

/-- One best is better than another. -/
def Btr : Option (Int × Int) → Option (Int × Int) → Prop
  | some v, o => takesIt v.1 v.2 o = true
  | none, _ => False

theorem Btr.irrefl {o : Option (Int × Int)} (h : Btr o o) : False := by
  cases o with
  | none => exact h
  | some v => simp [Btr, takesIt, better] at h

theorem Btr.trans {a b c : Option (Int × Int)} (h : Btr a b) (k : Btr b c) : Btr a c := by
  cases a with
  | none => exact h
  | some a =>
    cases b with
    | none => exact k.elim
    | some b =>
      cases c with
      | none => simp [Btr, takesIt]
      | some c =>
        simp [Btr, takesIt, better] at h k ⊢
        omega

/-- An op that is under way, and has looked. -/
def Und (w : World) (τ : Nat → Nat) (B : Names) (t wk : Nat) (kd x : Int) (p : Option Addr) (s : St) (sn : Sn) (l pv : Value) : Prop :=
  (kd = 2 ∧ sn.2 = none ∧ ∃ bm bs bx, l = look2 bm bs bx ∧ pv = put2 bm bs bx ∧ Box2 w τ t B.mm x sn.1 bm bs bx) ∨
  (kd = 3 ∧ sn.1 = 0 ∧ ∃ bm bs bx bo ob r, l = look3 bm bs bx bo ∧ pv = put3 bm bs bx bo ∧ Box3 w τ t B.qm wk x r sn.2 bm bs bx bo ob ∧ takesIt wk x sn.2 = true ∧ ((r = p ∧ sn.2 = s.bs) ∨ (r ≠ p ∧ Btr s.bs sn.2))) ∨
  (kd = 5 ∧ sn.2 = none ∧ sn.1 < s.ts ∧ 0 ≤ sn.1 ∧ ∃ bm bs, l = look5 bm bs ∧ pv = put5 bm bs ∧ Box5 w τ t B.tm sn.1 bm bs)

/-- What a step may turn. -/
def StepA (τ : Nat → Nat) (t : Nat) : Nat → Prop := fun k => τ k = 8 ∨ τ k = t ∨ (1 ≤ τ k ∧ τ k ≤ 5)

theorem StepF.all {τ : Nat → Nat} {t i k : Nat} (h : StepF τ t i k) (hi : (1 ≤ i ∧ i ≤ 5) ∨ i = 8) : StepA τ t k := by
  unfold StepF at h
  unfold StepA
  omega

theorem Retag.refl (w w' : World) (τ : Nat → Nat) (t : Nat) : Retag w w' τ τ t := ⟨fun _ _ => rfl, fun _ _ => Or.inl rfl⟩

/-- What stands is within its bounds. -/
structure StB (s : St) (M : Int) : Prop where
  len : s.L.length ≤ 64
  ar0 : 0 ≤ s.ar
  arM : s.ar ≤ M
  tk0 : 0 ≤ s.tk
  tkt : s.tk ≤ s.ts
  tsM : s.ts ≤ 9223372036854775807

theorem wrap_ok {v : Int} (h0 : 0 ≤ v) (h1 : v < 9223372036854775807) : IntKind.i64.wrap (v + 1) = v + 1 := by rw [IntKind.wrap_i64]; omega

/-- What a step comes to. -/
def StepP (w : World) (τ : Nat → Nat) (B : Names) (t wk : Nat) (kd x : Int) (p : Option Addr) (s : St) (sn : Option Sn) (ub q : Nat) (l pv : Value) (e : Ending) (w' : World) : Prop :=
  ∃ v y d τ' p', e = .returned (.tuple #[ans v y, .bool d]) ∧ d = (stepS s wk kd x sn).2.2.isSome ∧ (∀ a, (stepS s wk kd x sn).2.2 = some a → a = (v, y)) ∧ Frm (StepA τ t) w w' ∧ Retag w w' τ τ' t ∧ BenchS w' τ' B p' (stepS s wk kd x sn).1 ∧ TurnC G w' ub q l pv true ∧ (∀ sn', (stepS s wk kd x sn).2.1 = some sn' → Und w' τ' B t wk kd x p' (stepS s wk kd x sn).1 sn' l pv) ∧ ((p' = p ∧ (stepS s wk kd x sn).1.bs = s.bs) ∨ Btr (stepS s wk kd x sn).1.bs s.bs)

theorem step_beg (ub q : Nat) (τ : Nat → Nat) (B : Names) (p : Option Addr) (s : St) (t wk : Nat) (ht : 8 < t) (kd x : Int) (l pv : Value) (w : World) (M : Int) (hM : M < 9223372036854775807) (hs : StB s M) (hk : wk < s.L.length) (h : BenchS w τ B p s) (b : Beg w τ B t wk kd x l pv) (hu : τ ub = 8) (hT : TurnC G w ub q l pv false) :
    Calls Try.prog 45 #[.pointer (some ⟨ub, q, none⟩)] w (StepP (G := G) w τ B t wk kd x p s none ub q l pv) := by
  rcases b with ⟨rfl, bf, b1, b2, b3, rfl, rfl, b, tg⟩ | ⟨rfl, bm, bs, bx, rfl, rfl, b⟩ | ⟨rfl, bm, bs, bx, bo, ob, rfl, rfl, b⟩ | ⟨rfl, bf, bm, rfl, rfl, cf, cm, tg⟩ | ⟨rfl, bm, bs, rfl, rfl, b⟩ | ⟨⟨k1, k2, k3, k4, k5⟩, bf, rfl, rfl, cf, tg⟩
  · refine (step1_any ub q τ B p s t wk ht x bf b1 b2 b3 w h b tg hu hT hs.len hk).mono ?_
    rintro e w' ⟨rfl, f, tT, τ', r1, r2, h'⟩
    refine ⟨_, _, _, τ', p, rfl, by simp [stepS, doS], fun a ha => by simpa [stepS, doS] using ha.symm, Frm.mono f (fun k _ hk => hk.all (by omega)), ⟨r1, fun k hk => (r2 k hk).elim Or.inl (fun h => Or.inr ⟨Or.inr (Or.inr h.1), h.2⟩)⟩, by simpa [stepS, doS] using h', tT, fun sn' hsn => by simp [stepS] at hsn, Or.inl ⟨rfl, by simp [stepS, doS]⟩⟩
  · refine (step2_first ub q τ B p s t ht x 0 bm bs bx w h b hu hT).mono ?_
    rintro e w' ⟨rfl, f, h', tT, b'⟩
    by_cases hx : x ≤ s.mr
    · refine ⟨_, _, _, τ, p, rfl, by simp [stepS, idleS, hx], fun a ha => by simpa [stepS, idleS, hx] using ha.symm, Frm.mono f (fun k _ hk => hk.all (by omega)), Retag.refl _ _ _ _, by simpa [stepS, idleS, hx] using h', tT, fun sn' hsn => by simp [stepS, idleS, hx] at hsn, Or.inl ⟨rfl, by simp [stepS, idleS, hx]⟩⟩
    · refine ⟨_, _, _, τ, p, rfl, by simp [stepS, idleS, hx], fun a ha => by simp [stepS, idleS, hx] at ha, Frm.mono f (fun k _ hk => hk.all (by omega)), Retag.refl _ _ _ _, by simpa [stepS, idleS, hx] using h', tT, fun sn' hsn => ?_, Or.inl ⟨rfl, by simp [stepS, idleS, hx]⟩⟩
      simp [stepS, idleS, hx, lookS] at hsn
      subst hsn
      exact Or.inl ⟨rfl, rfl, bm, bs, bx, rfl, rfl, b'⟩
  · refine (step3_first ub q τ B p s t ht wk x none none bm bs bx bo ob w h b hu hT).mono ?_
    rintro e w' ⟨rfl, f, h', tT, b'⟩
    by_cases hx : takesIt wk x s.bs = true
    · refine ⟨_, _, _, τ, p, rfl, by simp [stepS, idleS, hx], fun a ha => by simp [stepS, idleS, hx] at ha, Frm.mono f (fun k _ hk => hk.all (by omega)), Retag.refl _ _ _ _, by simpa [stepS, idleS, hx] using h', tT, fun sn' hsn => ?_, Or.inl ⟨rfl, by simp [stepS, idleS, hx]⟩⟩
      simp [stepS, idleS, hx, lookS] at hsn
      subst hsn
      exact Or.inr (Or.inl ⟨rfl, rfl, bm, bs, bx, bo, ob, p, rfl, rfl, b', hx, Or.inl ⟨rfl, by simp [stepS, idleS, hx]⟩⟩)
    · refine ⟨_, _, _, τ, p, rfl, by simp [stepS, idleS, hx], fun a ha => by simpa [stepS, idleS, hx] using ha.symm, Frm.mono f (fun k _ hk => hk.all (by omega)), Retag.refl _ _ _ _, by simpa [stepS, idleS, hx] using h', tT, fun sn' hsn => by simp [stepS, idleS, hx] at hsn, Or.inl ⟨rfl, by simp [stepS, idleS, hx]⟩⟩
  · refine (step4_any ub q τ B p s t ht bf bm w h cf cm tg hu hT (wrap_ok hs.ar0 (by have := hs.arM; omega)) (by have := hs.ar0; have := hs.arM; unfold wrap64; omega)).mono ?_
    rintro e w' ⟨rfl, f, tT, h'⟩
    refine ⟨_, _, _, τ, p, rfl, by simp [stepS, doS], fun a ha => by simpa [stepS, doS] using ha.symm, Frm.mono f (fun k _ hk => hk.all (by omega)), Retag.refl _ _ _ _, by simpa [stepS, doS] using h', tT, fun sn' hsn => by simp [stepS] at hsn, Or.inl ⟨rfl, by simp [stepS, doS]⟩⟩
  · refine (step5_first ub q τ B p s t ht 0 bm bs w h b hu hT).mono ?_
    rintro e w' ⟨rfl, f, h', tT, b'⟩
    by_cases hx : s.ts ≤ s.tk
    · refine ⟨_, _, _, τ, p, rfl, by simp [stepS, idleS, hx], fun a ha => by simpa [stepS, idleS, hx] using ha.symm, Frm.mono f (fun k _ hk => hk.all (by omega)), Retag.refl _ _ _ _, by simpa [stepS, idleS, hx] using h', tT, fun sn' hsn => by simp [stepS, idleS, hx] at hsn, Or.inl ⟨rfl, by simp [stepS, idleS, hx]⟩⟩
    · refine ⟨_, _, _, τ, p, rfl, by simp [stepS, idleS, hx], fun a ha => by simp [stepS, idleS, hx] at ha, Frm.mono f (fun k _ hk => hk.all (by omega)), Retag.refl _ _ _ _, by simpa [stepS, idleS, hx] using h', tT, fun sn' hsn => ?_, Or.inl ⟨rfl, by simp [stepS, idleS, hx]⟩⟩
      simp [stepS, idleS, hx, lookS] at hsn
      subst hsn
      exact Or.inr (Or.inr ⟨rfl, rfl, by simp [stepS, idleS, hx]; omega, hs.tk0, bm, bs, rfl, rfl, b'⟩)
  · refine (step0_any ub q τ B p s t ht bf w h cf tg hu hT).mono ?_
    rintro e w' ⟨rfl, f, tT, h'⟩
    refine ⟨_, _, _, τ, p, rfl, by simp [stepS, doS, k1, k2, k3, k4, k5], fun a ha => by simpa [stepS, doS, k1, k2, k3, k4, k5] using ha.symm, Frm.mono f (fun k _ hk => hk.all (by omega)), Retag.refl _ _ _ _, by simpa [stepS, doS, k1, k2, k3, k4, k5] using h', tT, fun sn' hsn => by simp [stepS, k2, k3, k5] at hsn, Or.inl ⟨rfl, by simp [stepS, doS, k1, k2, k3, k4, k5]⟩⟩

theorem step_und (ub q : Nat) (τ : Nat → Nat) (B : Names) (p : Option Addr) (s : St) (t wk : Nat) (ht : 8 < t) (kd x : Int) (sn : Sn) (l pv : Value) (w : World) (M : Int) (hs : StB s M) (h : BenchS w τ B p s) (b : Und w τ B t wk kd x p s sn l pv) (hu : τ ub = 8) (hT : TurnC G w ub q l pv true) :
    Calls Try.prog 45 #[.pointer (some ⟨ub, q, none⟩)] w (StepP (G := G) w τ B t wk kd x p s (some sn) ub q l pv) := by
  obtain ⟨v1, v2⟩ := sn
  rcases b with ⟨rfl, e0, bm, bs, bx, rfl, rfl, b⟩ | ⟨rfl, e0, bm, bs, bx, bo, ob, r, rfl, rfl, b, hx, hr⟩ | ⟨rfl, e0, lt, l0, bm, bs, rfl, rfl, b⟩
  · simp only at e0 b
    subst e0
    by_cases hv : s.mr = v1
    · subst hv
      refine (step2_put ub q τ B p s t ht x bm bs bx w h b hu hT).mono ?_
      rintro e w' ⟨rfl, f, h', tT⟩
      exact ⟨_, _, _, τ, p, rfl, by simp [stepS, lookS, putS], fun a ha => by simpa [stepS, lookS, putS] using ha.symm, Frm.mono f (fun k _ hk => hk.all (by omega)), Retag.refl _ _ _ _, by simpa [stepS, lookS, putS] using h', tT, fun sn' hsn => by simp [stepS, lookS] at hsn, Or.inl ⟨rfl, by simp [stepS, lookS, putS]⟩⟩
    · have hv' : ¬ v1 = s.mr := fun e => hv e.symm
      refine (step2_miss ub q τ B p s t ht x v1 hv bm bs bx w h b hu hT).mono ?_
      rintro e w' ⟨rfl, f, h', tT, b'⟩
      by_cases hx : x ≤ s.mr
      · exact ⟨_, _, _, τ, p, rfl, by simp [stepS, idleS, lookS, hv', hx], fun a ha => by simpa [stepS, idleS, lookS, hv', hx] using ha.symm, Frm.mono f (fun k _ hk => hk.all (by omega)), Retag.refl _ _ _ _, by simpa [stepS, idleS, lookS, hv', hx] using h', tT, fun sn' hsn => by simp [stepS, idleS, lookS, hv', hx] at hsn, Or.inl ⟨rfl, by simp [stepS, idleS, lookS, hv', hx]⟩⟩
      · refine ⟨_, _, _, τ, p, rfl, by simp [stepS, idleS, lookS, hv', hx], fun a ha => by simp [stepS, idleS, lookS, hv', hx] at ha, Frm.mono f (fun k _ hk => hk.all (by omega)), Retag.refl _ _ _ _, by simpa [stepS, idleS, lookS, hv', hx] using h', tT, fun sn' hsn => ?_, Or.inl ⟨rfl, by simp [stepS, idleS, lookS, hv', hx]⟩⟩
        simp [stepS, idleS, lookS, hv', hx] at hsn
        subst hsn
        exact Or.inl ⟨rfl, rfl, bm, bs, bx, rfl, rfl, b'⟩
  · simp only at e0 b hx hr
    subst e0
    rcases hr with ⟨rfl, hb⟩ | ⟨hne, hb⟩
    · subst hb
      refine (step3_put ub q τ B r s t ht wk x s.bs bm bs bx bo ob w h b hu hT).mono ?_
      rintro e w' ⟨rfl, f, h', tT⟩
      exact ⟨_, _, _, τ, some ⟨ob, 0, none⟩, rfl, by simp [stepS, lookS, putS], fun a ha => by simpa [stepS, lookS, putS] using ha.symm, Frm.mono f (fun k _ hk => hk.all (by omega)), Retag.refl _ _ _ _, by simpa [stepS, lookS, putS] using h', tT, fun sn' hsn => by simp [stepS, lookS] at hsn, Or.inr (by simpa [stepS, lookS, putS, Btr] using hx)⟩
    · have hv' : ¬ v2 = s.bs := fun e => by rw [e] at hb; exact hb.irrefl
      refine (step3_miss ub q τ B p s t ht wk x r (fun e => hne e.symm) v2 bm bs bx bo ob w h b hu hT).mono ?_
      rintro e w' ⟨rfl, f, h', tT, b'⟩
      by_cases hx : takesIt wk x s.bs = true
      · refine ⟨_, _, _, τ, p, rfl, by simp [stepS, idleS, lookS, hv', hx], fun a ha => by simp [stepS, idleS, lookS, hv', hx] at ha, Frm.mono f (fun k _ hk => hk.all (by omega)), Retag.refl _ _ _ _, by simpa [stepS, idleS, lookS, hv', hx] using h', tT, fun sn' hsn => ?_, Or.inl ⟨rfl, by simp [stepS, idleS, lookS, hv', hx]⟩⟩
        simp [stepS, idleS, lookS, hv', hx] at hsn
        subst hsn
        exact Or.inr (Or.inl ⟨rfl, rfl, bm, bs, bx, bo, ob, p, rfl, rfl, b', hx, Or.inl ⟨rfl, by simp [stepS, idleS, lookS, hv', hx]⟩⟩)
      · exact ⟨_, _, _, τ, p, rfl, by simp [stepS, idleS, lookS, hv', hx], fun a ha => by simpa [stepS, idleS, lookS, hv', hx] using ha.symm, Frm.mono f (fun k _ hk => hk.all (by omega)), Retag.refl _ _ _ _, by simpa [stepS, idleS, lookS, hv', hx] using h', tT, fun sn' hsn => by simp [stepS, idleS, lookS, hv', hx] at hsn, Or.inl ⟨rfl, by simp [stepS, idleS, lookS, hv', hx]⟩⟩
  · simp only at e0 b lt l0
    subst e0
    have tsM := hs.tsM
    by_cases hv : s.tk = v1
    · subst hv
      refine (step5_put ub q τ B p s (wrap_ok hs.tk0 (by omega)) t ht bm bs w h b hu hT).mono ?_
      rintro e w' ⟨rfl, f, h', tT⟩
      exact ⟨_, _, _, τ, p, rfl, by simp [stepS, lookS, putS], fun a ha => by simpa [stepS, lookS, putS] using ha.symm, Frm.mono f (fun k _ hk => hk.all (by omega)), Retag.refl _ _ _ _, by simpa [stepS, lookS, putS] using h', tT, fun sn' hsn => by simp [stepS, lookS] at hsn, Or.inl ⟨rfl, by simp [stepS, lookS, putS]⟩⟩
    · have hv' : ¬ v1 = s.tk := fun e => hv e.symm
      refine (step5_miss ub q τ B p s t ht v1 hv (wrap_ok l0 (by omega)) bm bs w h b hu hT).mono ?_
      rintro e w' ⟨rfl, f, h', tT, b'⟩
      by_cases hx : s.ts ≤ s.tk
      · exact ⟨_, _, _, τ, p, rfl, by simp [stepS, idleS, lookS, hv', hx], fun a ha => by simpa [stepS, idleS, lookS, hv', hx] using ha.symm, Frm.mono f (fun k _ hk => hk.all (by omega)), Retag.refl _ _ _ _, by simpa [stepS, idleS, lookS, hv', hx] using h', tT, fun sn' hsn => by simp [stepS, idleS, lookS, hv', hx] at hsn, Or.inl ⟨rfl, by simp [stepS, idleS, lookS, hv', hx]⟩⟩
      · refine ⟨_, _, _, τ, p, rfl, by simp [stepS, idleS, lookS, hv', hx], fun a ha => by simp [stepS, idleS, lookS, hv', hx] at ha, Frm.mono f (fun k _ hk => hk.all (by omega)), Retag.refl _ _ _ _, by simpa [stepS, idleS, lookS, hv', hx] using h', tT, fun sn' hsn => ?_, Or.inl ⟨rfl, by simp [stepS, idleS, lookS, hv', hx]⟩⟩
        simp [stepS, idleS, lookS, hv', hx] at hsn
        subst hsn
        exact Or.inr (Or.inr ⟨rfl, rfl, by simp [stepS, idleS, lookS, hv', hx]; omega, hs.tk0, bm, bs, rfl, rfl, b'⟩)
end Go.Proofs.Ytpnnfkgnkalhlaa
