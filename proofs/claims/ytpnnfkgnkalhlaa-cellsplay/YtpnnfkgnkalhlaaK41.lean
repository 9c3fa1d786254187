/- Ops under way: an offer's. -/
import Derived.Test.YtpnnfkgnkalhlaaJ11
namespace Go.Proofs.Ytpnnfkgnkalhlaa
open Go.RowKit Go.Lib Go.Maps
variable {G : Nat → Option Value}

theorem e75 : ∀ args w, (callFunc 75 args).run Try.prog w = .ok (.enter 75 args) w := enters_of Try.func75 (by kernel_rfl) rfl
theorem e77 : ∀ args w, (callFunc 77 args).run Try.prog w = .ok (.enter 77 args) w := enters_of Try.func77 (by kernel_rfl) rfl

/-- The boxes of an offer: its tag is t; what was seen: the pointer r, to o. -/
structure Box3 (w : World) (τ : Nat → Nat) (t qm : Nat) (wk x : Int) (r : Option Addr) (o : Option (Int × Int)) (bm bs bx bo ob : Nat) : Prop where
  c0 : w.cell? ⟨bm, 0, none⟩ = some (.pointer (some ⟨qm, 0, none⟩))
  c1 : w.heap[bs]? = some (.cells #[.pointer r] 103 (0, 0))
  c2 : w.cell? ⟨bx, 0, none⟩ = some (.int .i64 x)
  c3 : w.cell? ⟨bo, 0, none⟩ = some (.pointer (some ⟨ob, 0, none⟩))
  c4 : w.heap[ob]? = some (.cells #[.int .i64 wk, .int .i64 x] 152 (0, 0))
  sv : OffV w r o
  tg : τ bm = t ∧ τ bs = t ∧ τ bx = t ∧ τ bo = t ∧ τ ob = 7
  t7 : ∀ a, r = some a → τ a.block = 7
  ne : bs ≠ bm ∧ bs ≠ bx ∧ bs ≠ bo

theorem Box3.frm {w w' : World} {S : Nat → Prop} {τ : Nat → Nat} {t qm : Nat} {wk x : Int} {r : Option Addr} {o : Option (Int × Int)} {bm bs bx bo ob : Nat} (h : Box3 w τ t qm wk x r o bm bs bx bo ob) (f : Frm S w w') (hS : ∀ k, S k → k < w.heap.size → τ k ≠ t ∧ τ k ≠ 7) : Box3 w' τ t qm wk x r o bm bs bx bo ob :=
  ⟨frm_cell f h.c0 (fun e => (hS _ e (World.block_lt_of_cell? w _ h.c0)).1 h.tg.1), (f.block bs (Array.getElem?_eq_some_iff.1 h.c1).1 (fun e => (hS _ e (Array.getElem?_eq_some_iff.1 h.c1).1).1 h.tg.2.1)).trans h.c1, frm_cell f h.c2 (fun e => (hS _ e (World.block_lt_of_cell? w _ h.c2)).1 h.tg.2.2.1), frm_cell f h.c3 (fun e => (hS _ e (World.block_lt_of_cell? w _ h.c3)).1 h.tg.2.2.2.1), (f.block ob (Array.getElem?_eq_some_iff.1 h.c4).1 (fun e => (hS _ e (Array.getElem?_eq_some_iff.1 h.c4).1).2 h.tg.2.2.2.2)).trans h.c4, h.sv.frm f (fun a ha e => (hS _ e (h.sv.lt a ha)).2 (h.t7 a ha)), h.tg, h.t7, h.ne⟩

def look3 (bm bs bx bo : Nat) : Value := .func (.func 75) #[] #[.pointer (some ⟨bm, 0, none⟩), .pointer (some ⟨bs, 0, none⟩), .pointer (some ⟨bx, 0, none⟩), .pointer (some ⟨bo, 0, none⟩)]
def put3 (bm bs bx bo : Nat) : Value := .func (.func 77) #[] #[.pointer (some ⟨bx, 0, none⟩), .pointer (some ⟨bm, 0, none⟩), .pointer (some ⟨bs, 0, none⟩), .pointer (some ⟨bo, 0, none⟩)]

theorem look3_any (τ : Nat → Nat) (B : Names) (p : Option Addr) (s : St) (t : Nat) (ht : 8 < t) (wk x : Int) (r : Option Addr) (o : Option (Int × Int)) (bm bs bx bo ob : Nat) (w : World) (h : BenchS w τ B p s) (b : Box3 w τ t B.qm wk x r o bm bs bx bo ob) :
    Calls Try.prog 75 #[.pointer (some ⟨bm, 0, none⟩), .pointer (some ⟨bs, 0, none⟩), .pointer (some ⟨bx, 0, none⟩), .pointer (some ⟨bo, 0, none⟩)] w fun e w' => e = .returned (.tuple #[ans x false, .bool (!takesIt wk x s.bs)]) ∧ Frm (fun k => k = bs) w w' ∧ Box3 w' τ t B.qm wk x p s.bs bm bs bx bo ob := by
  obtain ⟨tn, hn⟩ := h.bn
  have tg := b.tg
  have l1 : ob < w.heap.size := (Array.getElem?_eq_some_iff.1 b.c4).1
  have n7 : ∀ k, τ k = 7 → k ≠ bs := fun k hk e => by rw [e] at hk; omega
  refine (offer_look bm B.qm B.qn bs bx bo ob x p r (takesIt wk x s.bs) w b.c0 h.bp (cell_of hn) h.bv.offp b.c2 b.c3 b.c1 b.ne.2.1 b.ne.2.2 ?_).mono ?_
  · intro W fW
    exact replaces_any ob wk x p s.bs W ((fW.block ob l1 (n7 ob tg.2.2.2.2)).trans b.c4) (h.bv.frm fW (fun a ha => n7 _ (h.t3.2.2 a ha)))
  · rintro e w' ⟨rfl, f, hb⟩
    exact ⟨rfl, f, frm_cell f b.c0 (fun e => b.ne.1 e.symm), hb, frm_cell f b.c2 (fun e => b.ne.2.1 e.symm), frm_cell f b.c3 (fun e => b.ne.2.2 e.symm), (f.block ob l1 (n7 ob tg.2.2.2.2)).trans b.c4, h.bv.frm f (fun a ha => n7 _ (h.t3.2.2 a ha)), b.tg, h.t3.2.2, b.ne⟩


theorem step3_first (ub q : Nat) (τ : Nat → Nat) (B : Names) (p : Option Addr) (s : St) (t : Nat) (ht : 8 < t) (wk x : Int) (r : Option Addr) (o : Option (Int × Int)) (bm bs bx bo ob : Nat) (w : World) (h : BenchS w τ B p s) (b : Box3 w τ t B.qm wk x r o bm bs bx bo ob) (hu : τ ub = 8) (hT : TurnC G w ub q (look3 bm bs bx bo) (put3 bm bs bx bo) false) :
    Calls Try.prog 45 #[.pointer (some ⟨ub, q, none⟩)] w fun e w' => e = .returned (.tuple #[ans x false, .bool (!takesIt wk x s.bs)]) ∧ Frm (StepF τ t 8) w w' ∧ BenchS w' τ B p s ∧ TurnC G w' ub q (look3 bm bs bx bo) (put3 bm bs bx bo) true ∧ Box3 w' τ t B.qm wk x p s.bs bm bs bx bo ob := by
  have lb : bs < w.heap.size := (Array.getElem?_eq_some_iff.1 b.c1).1
  have tg := b.tg
  refine (step_look ub q _ _ _ x false (!takesIt wk x s.bs) w hT (fun k => k = bs) (fun k hk => by omega) (fun W' => Box3 W' τ t B.qm wk x p s.bs bm bs bx bo ob) e75 ?_).mono ?_
  · intro W fW _
    exact look3_any τ B p s t ht wk x r o bm bs bx bo ob W (h.frm fW (fun k hk _ => by rw [hk]; omega)) (b.frm fW (fun k hk _ => by rw [hk]; omega))
  · rintro e w' ⟨rfl, W, W', f1, t1, f2, b2, f3⟩
    have fA : Frm (StepF τ t 8) w W' := Frm.trans (Frm.mono f1 (fun k _ hk => Or.inl (by rw [hk]; exact hu))) f2 (fun k _ hk => Or.inr (Or.inl (by rw [hk]; exact tg.2.1)))
    have fB : Frm (StepF τ t 8) w w' := Frm.trans fA f3 (fun k hk hl => by omega)
    have z1 := f1.size
    have z2 := f2.size
    have lub := hT.lt
    refine ⟨rfl, fB, h.frm fB (fun k hk _ => by unfold StepF at hk; omega), ?_, ?_⟩
    · exact (t1.frm f2 (fun e => by rw [e] at hu; omega)).frm f3 (by omega)
    · have hbm : bm < w.heap.size := World.block_lt_of_cell? w ⟨bm, 0, none⟩ b.c0
      have hbx : bx < w.heap.size := World.block_lt_of_cell? w ⟨bx, 0, none⟩ b.c2
      have hbo : bo < w.heap.size := World.block_lt_of_cell? w ⟨bo, 0, none⟩ b.c3
      have hob : ob < w.heap.size := (Array.getElem?_eq_some_iff.1 b.c4).1
      exact ⟨frm_cell f3 b2.c0 (by simp only; omega), (f3.block bs (by omega) (by omega)).trans b2.c1, frm_cell f3 b2.c2 (by simp only; omega), frm_cell f3 b2.c3 (by simp only; omega), (f3.block ob (by omega) (by omega)).trans b2.c4, b2.sv.frm f3 (fun a ha => by have := h.bv.lt a ha; omega), tg, b2.t7, b.ne⟩

theorem step3_miss (ub q : Nat) (τ : Nat → Nat) (B : Names) (p : Option Addr) (s : St) (t : Nat) (ht : 8 < t) (wk x : Int) (r : Option Addr) (hr : p ≠ r) (o : Option (Int × Int)) (bm bs bx bo ob : Nat) (w : World) (h : BenchS w τ B p s) (b : Box3 w τ t B.qm wk x r o bm bs bx bo ob) (hu : τ ub = 8) (hT : TurnC G w ub q (look3 bm bs bx bo) (put3 bm bs bx bo) true) :
    Calls Try.prog 45 #[.pointer (some ⟨ub, q, none⟩)] w fun e w' => e = .returned (.tuple #[ans x false, .bool (!takesIt wk x s.bs)]) ∧ Frm (StepF τ t 8) w w' ∧ BenchS w' τ B p s ∧ TurnC G w' ub q (look3 bm bs bx bo) (put3 bm bs bx bo) true ∧ Box3 w' τ t B.qm wk x p s.bs bm bs bx bo ob := by
  have lb : bs < w.heap.size := (Array.getElem?_eq_some_iff.1 b.c1).1
  have tg := b.tg
  refine (step_miss ub q _ _ _ _ x x true false (!takesIt wk x s.bs) w hT (fun k => k = bs) (fun k hk => by omega) (fun W' => Box3 W' τ t B.qm wk x p s.bs bm bs bx bo ob) e77 e75 ?_ ?_).mono ?_
  · intro W oW
    have bW := b.frm oW (fun _ h _ => h.elim)
    have hW := h.old oW
    exact offer_miss bm B.qm B.qn bs bx bo ob x p r hr _ W bW.c0 hW.bp hW.bn.choose_spec bW.c2 bW.c3 (cell_of bW.c1) hW.bv.offp bW.sv.offp (Or.inr ⟨ob, wk, x, rfl, bW.c4⟩)
  · intro W fW _
    exact look3_any τ B p s t ht wk x r o bm bs bx bo ob W (h.frm fW (fun k hk _ => by rw [hk]; omega)) (b.frm fW (fun k hk _ => by rw [hk]; omega))
  · rintro e w' ⟨rfl, W, W', f1, t1, f2, b2, f3⟩
    have fA : Frm (StepF τ t 8) w W' := Frm.trans (Frm.mono f1 (fun k _ hk => Or.inl (by rw [hk]; exact hu))) f2 (fun k _ hk => Or.inr (Or.inl (by rw [hk]; exact tg.2.1)))
    have fB : Frm (StepF τ t 8) w w' := Frm.trans fA f3 (fun k hk hl => by omega)
    have z1 := f1.size
    have z2 := f2.size
    have lub := hT.lt
    refine ⟨rfl, fB, h.frm fB (fun k hk _ => by unfold StepF at hk; omega), ?_, ?_⟩
    · exact (t1.frm f2 (fun e => by rw [e] at hu; omega)).frm f3 (by omega)
    · have hbm : bm < w.heap.size := World.block_lt_of_cell? w ⟨bm, 0, none⟩ b.c0
      have hbx : bx < w.heap.size := World.block_lt_of_cell? w ⟨bx, 0, none⟩ b.c2
      have hbo : bo < w.heap.size := World.block_lt_of_cell? w ⟨bo, 0, none⟩ b.c3
      have hob : ob < w.heap.size := (Array.getElem?_eq_some_iff.1 b.c4).1
      exact ⟨frm_cell f3 b2.c0 (by simp only; omega), (f3.block bs (by omega) (by omega)).trans b2.c1, frm_cell f3 b2.c2 (by simp only; omega), frm_cell f3 b2.c3 (by simp only; omega), (f3.block ob (by omega) (by omega)).trans b2.c4, b2.sv.frm f3 (fun a ha => by have := h.bv.lt a ha; omega), tg, b2.t7, b.ne⟩

theorem step3_put (ub q : Nat) (τ : Nat → Nat) (B : Names) (p : Option Addr) (s : St) (t : Nat) (ht : 8 < t) (wk x : Int) (o : Option (Int × Int)) (bm bs bx bo ob : Nat) (w : World) (h : BenchS w τ B p s) (b : Box3 w τ t B.qm wk x p o bm bs bx bo ob) (hu : τ ub = 8) (hT : TurnC G w ub q (look3 bm bs bx bo) (put3 bm bs bx bo) true) :
    Calls Try.prog 45 #[.pointer (some ⟨ub, q, none⟩)] w fun e w' => e = .returned (.tuple #[ans x true, .bool true]) ∧ Frm (StepF τ t 3) w w' ∧ BenchS w' τ B (some ⟨ob, 0, none⟩) { s with bs := some (wk, x) } ∧ TurnC G w' ub q (look3 bm bs bx bo) (put3 bm bs bx bo) true := by
  have tg := b.tg
  have u3 := h.t3
  obtain ⟨tn, hn⟩ := h.bn
  have lqn : B.qn < w.heap.size := (Array.getElem?_eq_some_iff.1 hn).1
  have lqm : B.qm < w.heap.size := World.block_lt_of_cell? w ⟨B.qm, 0, none⟩ h.bp
  have lob : ob < w.heap.size := (Array.getElem?_eq_some_iff.1 b.c4).1
  have n1 : B.qn ≠ bm := fun e => by rw [e] at u3; omega
  have n3 : B.qn ≠ bs := fun e => by rw [e] at u3; omega
  have n4 : B.qn ≠ bx := fun e => by rw [e] at u3; omega
  have n5 : B.qn ≠ bo := fun e => by rw [e] at u3; omega
  have n6 : ob ≠ B.qn := fun e => by rw [← e] at u3; omega
  refine (step_put ub q _ _ _ x true w hT (fun k => k = B.qn) (fun k hk => by omega) (fun W' => W'.heap[B.qn]? = some (.cells #[.pointer (some ⟨ob, 0, none⟩)] tn (0, 0))) e77 ?_).mono ?_
  · intro W oW
    have bW := b.frm oW (fun _ h _ => h.elim)
    have hW := h.old oW
    exact offer_put bm B.qm B.qn bs bx bo ob x p tn W bW.c0 hW.bp ((oW.block _ lqn (fun h => h)).trans hn) bW.c2 bW.c3 (cell_of bW.c1) hW.bv.offp (Or.inr ⟨ob, wk, x, rfl, bW.c4⟩) n1 h.be n3 n4 n5
  · rintro e w' ⟨rfl, W, W', o1, f2, b2, f3⟩
    have fA : Frm (StepF τ t 3) w W' := Frm.trans (Frm.mono o1 (fun _ _ h => h.elim)) f2 (fun k _ hk => Or.inr (Or.inr (by rw [hk]; exact u3.2.1)))
    have fB : Frm (StepF τ t 3) w w' := Frm.trans fA f3 (fun k hk hl => by omega)
    have z1 := o1.size
    have z2 := f2.size
    have lub := hT.lt
    refine ⟨rfl, fB, h.upd3 fB (fun k hk _ => by unfold StepF at hk; omega) ?_ ⟨tn, (f3.block _ (by omega) (by omega)).trans b2⟩ ⟨ob, rfl, ?_⟩ (fun a ha => by cases ha; exact tg.2.2.2.2), ?_⟩
    · exact frm_cell f3 (frm_cell f2 (o1.cell h.bp) (fun e => h.be e.symm)) (by simp only; omega)
    · exact (f3.block ob (by omega) (by omega)).trans ((f2.block ob (by omega) n6).trans ((o1.block ob lob (fun h => h)).trans b.c4))
    · exact ((hT.frm o1 (fun h => h)).frm f2 (fun e => by rw [e] at hu; omega)).frm f3 (by omega)
end Go.Proofs.Ytpnnfkgnkalhlaa
