/- Ops under way: an offer's. -/
import Derived.Test.YtpnnfkgnkalhlaaJ11
namespace Go.Proofs.Ytpnnfkgnkalhlaa
open Go.RowKit Go.Lib Go.Maps
variable {G : Nat → Option Value}

theorem e75 : ∀ args w, (callFunc 75 args).run Try.prog w = .ok (.enter 75 args) w := enters_of Try.func75 (by kernel_rfl) rfl
theorem e77 : ∀ args w, (callFunc 77 args).run Try.prog w = .ok (.enter 77 args) w := enters_of Try.func77 (by kernel_rfl) rfl

/-- The boxes of an offer: its tag is t; what was seen: the pointer r, to o. -/
structure Box3 (w : World) (τ : Nat → Nat) (t qm : Nat) (wk x : Int) (r : Option Addr) (o : Option (Int × Int)) (bm bs bx bo ob : Nat) : Prop where
  c0 : w.cell? ⟨bm, 0, none⟩ = some (.pointer (some ⟨qm, 0, none⟩))
  c1 : w.heap[bs]? = some (.cells #[.pointer r] 103 (0, 0))
  c2 : w.cell? ⟨bx, 0, none⟩ = some (.int .i64 x)
  c3 : w.cell? ⟨bo, 0, none⟩ = some (.pointer (some ⟨ob, 0, none⟩))
  c4 : w.heap[ob]? = some (.cells #[.int .i64 wk, .int .i64 x] 152 (0, 0))
  sv : OffV w r o
  tg : τ bm = t ∧ τ bs = t ∧ τ bx = t ∧ τ bo = t ∧ τ ob = 7
  t7 : ∀ a, r = some a → τ a.block = 7
  ne : bs ≠ bm ∧ bs ≠ bx ∧ bs ≠ bo

theorem Box3.frm {w w' : World} {S : Nat → Prop} {τ : Nat → Nat} {t qm : Nat} {wk x : Int} {r : Option Addr} {o : Option (Int × Int)} {bm bs bx bo ob : Nat} (h : Box3 w τ t qm wk x r o bm bs bx bo ob) (f : Frm S w w') (hS : ∀ k, S k → k < w.heap.size → τ k ≠ t ∧ τ k ≠ 7) : Box3 w' τ t qm wk x r o bm bs bx bo ob :=
  ⟨frm_cell f h.c0 (fun e => (hS _ e (World.block_lt_of_cell? w _ h.c0)).1 h.tg.1), (f.block bs (Array.getElem?_eq_some_iff.1 h.c1).1 (fun e => (hS _ e (Array.getElem?_eq_some_iff.1 h.c1).1).1 h.tg.2.1)).trans h.c1, frm_cell f h.c2 (fun e => (hS _ e (World.block_lt_of_cell? w _ h.c2)).1 h.tg.2.2.1), frm_cell f h.c3 (fun e => (hS _ e (World.block_lt_of_cell? w _ h.c3)).1 h.tg.2.2.2.1), (f.block ob (Array.getElem?_eq_some_iff.1 h.c4).1 (fun e => (hS _ e (Array.getElem?_eq_some_iff.1 h.c4).1).2 h.tg.2.2.2.2)).trans h.c4, h.sv.frm f (fun a ha e => (hS _ e (h.sv.lt a ha)).2 (h.t7 a ha)), h.tg, h.t7, h.ne⟩

def look3 (bm bs bx bo : Nat) : Value := .func (.func 75) #[] #[.pointer (some ⟨bm, 0, none⟩), .pointer (some ⟨bs, 0, none⟩), .pointer (some ⟨bx, 0, none⟩), .pointer (some ⟨bo, 0, none⟩)]
def put3 (bm bs bx bo : Nat) : Value := .func (.func 77) #[] #[.pointer (some ⟨bx, 0, none⟩), .pointer (some ⟨bm, 0, none⟩), .pointer (some ⟨bs, 0, none⟩), .pointer (some ⟨bo, 0, none⟩)]

theorem look3_any (τ : Nat → Nat) (B : Names) (p : Option Addr) (s : St) (t : Nat) (ht : 8 < t) (wk x : Int) (r : Option Addr) (o : Option (Int × Int)) (bm bs bx bo ob : Nat) (w : World) (h : BenchS w τ B p s) (b : Box3 w τ t B.qm wk x r o bm bs bx bo ob) :
    Calls Try.prog 75 #[.pointer (some ⟨bm, 0, none⟩), .pointer (some ⟨bs, 0, none⟩), .pointer (some ⟨bx, 0, none⟩), .pointer (some ⟨bo, 0, none⟩)] w fun e w' => e = .returned (.tuple #[ans x false, .bool (!takesIt wk x s.bs)]) ∧ Frm (fun k => k = bs) w w' ∧ Box3 w' τ t B.qm wk x p s.bs bm bs bx bo ob := by
  obtain ⟨tn, hn⟩ := h.bn
  have tg := b.tg
  have l1 : ob < w.heap.size := (Array.getElem?_eq_some_iff.1 b.c4).1
  have n7 : ∀ k, τ k = 7 → k ≠ bs := fun k hk e => by rw [e] at hk; omega
  refine (offer_look bm B.qm B.qn bs bx bo ob x p r (takesIt wk x s.bs) w b.c0 h.bp (cell_of hn) h.bv.offp b.c2 b.c3 b.c1 b.ne.2.1 b.ne.2.2 ?_).mono ?_
  · intro W fW
    exact replaces_any ob wk x p s.bs W ((fW.block ob l1 (n7 ob tg.2.2.2.2)).trans b.c4) (h.bv.frm fW (fun a ha => n7 _ (h.t3.2.2 a ha)))
  · rintro e w' ⟨rfl, f, hb⟩
    exact ⟨rfl, f, frm_cell f b.c0 (fun e => b.ne.1 e.symm), hb, frm_cell f b.c2 (fun e => b.ne.2.1 e.symm), frm_cell f b.c3 (fun e => b.ne.2.2 e.symm), (f.block ob l1 (n7 ob tg.2.2.2.2)).trans b.c4, h.bv.frm f (fun a ha => n7 _ (h.t3.2.2 a ha)), b.tg, h.t3.2.2, b.ne⟩


theorem step3_first (ub q : Nat) (τ : Nat → Nat) (B : Names) (p : Option Addr) (s : St) (t : Nat) (ht : 8 < t) (wk x : Int) (r : Option Addr) (o : Option (Int × Int)) (bm bs bx bo ob : Nat) (w : World) (h : BenchS w τ B p s) (b : Box3 w τ t B.qm wk x r o bm bs bx bo ob) (hu : τ ub = 8) (hT : TurnC G w ub q (look3 bm bs bx bo) (put3 bm bs bx bo) false) :
    Calls Try.prog 45 #[.pointer (some ⟨ub, q, none⟩)] w fun e w' => e = .returned (.tuple #[ans x false, .bool (!takesIt wk x s.bs)]) ∧ Frm (StepF τ t 8) w w' ∧ BenchS w' τ B p s ∧ TurnC G w' ub q (look3 bm bs bx bo) (put3 bm bs bx bo) true ∧ Box3 w' τ t B.qm wk x p s.bs bm bs bx bo ob := by
  have lb : bs < w.heap.size := (Array.getElem?_eq_some_iff.1 b.c1).1
  have tg := b.tg
  refine (step_look ub q _ _ _ x false (!takesIt wk x s.bs) w hT (fun k => k = bs) (fun k hk => by omega) (fun W' => Box3 W' τ t B.qm wk x p s.bs bm bs bx bo ob) e75 ?_).mono ?_
  · intro W fW _
    exact look3_any τ B p s t ht wk x r o bm bs bx bo ob W (h.frm fW (fun k hk _ => by rw [hk]; omega)) (b.frm fW (fun k hk _ => by rw [hk]; omega))
  · rintro e w' ⟨rfl, W, W', f1, t1, f2, b2, f3⟩
    have fA : Frm (StepF τ t 8) w W' := Frm.trans (Frm.mono f1 (fun k _ hk => Or.inl (by rw [hk]; exact hu))) f2 (fun k _ hk => Or.inr (Or.inl (by rw [hk]; exact tg.2.1)))
    have fB : Frm (StepF τ t 8) w w' := Frm.trans fA f3 (fun k hk hl => by omega)
    have z1 := f1.size
    have z2 := f2.size
    have lub := hT.lt
    refine ⟨rfl, fB, h.frm fB (fun k hk _ => by unfold StepF at hk; omega), ?_, ?_⟩
    · exact (t1.frm f2 (fun e => by rw [e] at hu; omega)).frm f3 (by omega)
    · have hbm : bm < w.heap.size := World.block_lt_of_cell? w ⟨bm, 0, none⟩ b.c0
      have hbx : bx < w.heap.size := World.block_lt_of_cell? w ⟨bx, 0, none⟩ b.c2
      have hbo : bo < w.heap.size := World.block_lt_of_cell? w ⟨bo, 0, none⟩ b.c3
      have hob : ob < w.heap.size := (Array.getElem?_eq_some_iff.1 b.c4).1
      exact ⟨frm_cell f3 b2.c0 (by simp only; omega), (f3.block bs (by omega) (by omega)).trans b2.c1, frm_cell f3 b2.c2 (by simp only; omega), frm_cell f3 b2.c3 (by simp only; omega), (f3.block ob (by omega) (by omega)).trans b2.c4, b2.sv.frm f3 (fun a ha => by have := h.bv.lt a ha; omega), tg, b2.t7, b.ne⟩

theorem step3_miss (ub q : Nat) (τ : Nat → Nat) (B : Names) (p : Option Addr) (s : St) (t : Nat) (ht : 8 < t) (wk x : Int) (r : Option Addr) (hr : p ≠ r) (o : Option (Int × Int)) (bm bs bx bo ob : Nat) (w : World) (h : BenchS w τ B p s) (b : Box3 w τ t B.qm wk x r o bm bs bx bo ob) (hu : τ ub = 8) (hT : TurnC G w ub q (look3 bm bs bx bo) (put3 bm bs bx bo) true) :
    Calls Try.prog 45 #[.pointer (some ⟨ub, q, none⟩)] w fun e w' => e = .returned (.tuple #[ans x false, .bool (!takesIt wk x s.bs)]) ∧ Frm (StepF τ t 8) w w' ∧ BenchS w' τ B p s ∧ TurnC G w' ub q (look3 bm bs bx bo) (put3 bm bs bx bo) true ∧ Box3 w' τ t B.qm wk x p s.bs bm bs bx bo ob := by
  have lb : bs < w.heap.size := (Array.getElem?_eq_some_iff.1 b.c1).1
  have tg := b.tg
  refine (step_miss ub q _ _ _ _ x x true false (!takesIt wk x s.bs) w hT (fun k => k = bs) (fun k hk => by omega) (fun W' => Box3 W' τ t B.qm wk x p s.bs bm bs bx bo ob) e77 e75 ?_ ?_).mono ?_
  · intro W oW
    have bW := b.frm oW (fun _ h _ => h.elim)
    have hW := h.old oW
    exact offer_miss bm B.qm B.qn bs bx bo ob x p r hr _ W bW.c0 hW.bp hW.bn.choose_spec bW.c2 bW.c3 (cell_of bW.c1) hW.bv.offp bW.sv.offp (Or.inr ⟨ob, wk, x, rfl, bW.c4⟩)
  · intro W fW _
    exact look3_any τ B p s t ht wk x r o bm bs bx bo ob W (h.frm fW (fun k hk _ => by rw [hk]; omega)) (b.frm fW (fun k hk _ => by rw [hk]; omega))
  · rintro e w' ⟨rfl, W, W', f1, t1, f2, b2, f3⟩
    have fA : Frm (StepF τ t 8) w W' := Frm.trans (Frm.mono f1 (fun k _ hk => Or.inl (by rw [hk]; exact hu))) f2 (fun k _ hk => Or.inr (Or.inl (by rw [hk]; exact tg.2.1)))
    have fB : Frm (StepF τ t 8) w w' := Frm.trans fA f3 (fun k hk hl => by omega)
    have z1 := f1.size
    have z2 := f2.size
    have lub := hT.lt
    refine ⟨rfl, fB, h.frm fB (fun k hk _ => by unfold StepF at hk; omega), ?_, ?_⟩
    · exact (t1.frm f2 (fun e => by rw [e] at hu; omega)).frm f3 (by omega)
    · have hbm : bm < w.heap.size := World.block_lt_of_cell? w ⟨bm, 0, none⟩ b.c0
      have hbx : bx < w.heap.size := World.block_lt_of_cell? w ⟨bx, 0, none⟩ b.c2
      have hbo : bo < w.heap.size := World.block_lt_of_cell? w ⟨bo, 0, none⟩ b.c3
      have hob : ob < w.heap.size := (Array.getElem?_eq_some_iff.1 b.c4).1
      exact ⟨frm_cell f3 b2.c0 (by simp only; omega), (f3.block bs (by omega) (by omega)).trans b2.c1, frm_cell f3 b2.c2 (by simp only; omega), frm_cell f3 b2.c3 (by simp only; omega), (f3.block ob (by omega) (by omega)).trans b2.c4, b2.sv.frm f3 (fun a ha => by have := h.bv.lt a ha; omega), tg, b2.t7, b.ne⟩

theorem step3_put (ub q : Nat) (τ : Nat → Nat) (B : Names) (p : Option Addr) (s : St) (t : Nat) (ht : 8 < t) (wk x : Int) (o : Option (Int × Int)) (bm bs bx bo ob : Nat) (w : World) (h : BenchS w τ B p s) (b : Box3 w τ t B.qm wk x p o bm bs bx bo ob) (hu : τ ub = 8) (hT : TurnC G w ub q (look3 bm bs bx bo) (put3 bm bs bx bo) true) :
    Calls Try.prog 45 #[.pointer (some ⟨ub, q, none⟩)] w fun e w' => e = .returned (.tuple #[ans x true, .bool true]) ∧ Frm (StepF τ t 3) w w' ∧ BenchS w' τ B (some ⟨ob, 0, none⟩) { s with bs := some (wk, x) } ∧ TurnC G w' ub q (look3 bm bs bx bo) (put3 bm bs bx bo) true := by
  have tg := b.tg
  have u3 := h.t3
  obtain ⟨tn, hn⟩ := h.bn
  have lqn : B.qn < w.heap.size := (Array.getElem?_eq_some_iff.1 hn).1
  have lqm : B.qm < w.heap.size := World.block_lt_of_cell? w ⟨B.qm, 0, none⟩ h.bp
  have lob : ob < w.heap.size := (Array.getElem?_eq_some_iff.1 b.c4).1
  have n1 : B.qn ≠ bm := fun e => by rw [e] at u3; omega
  have n3 : B.qn ≠ bs := fun e => by rw [e] at u3; omega
  have n4 : B.qn ≠ bx := fun e => by rw [e] at u3; omega
  have n5 : B.qn ≠ bo := fun e => by rw [e] at u3; omega
  have n6 : ob ≠ B.qn := fun e => by rw [← e] at u3; omega
  refine (step_put ub q _ _ _ x true w hT (fun k => k = B.qn) (fun k hk => by omega) (fun W' => W'.heap[B.qn]? = some (.cells #[.pointer (some ⟨ob, 0, none⟩)] tn (0, 0))) e77 ?_).mono ?_
  · intro W oW
    have bW := b.frm oW (fun _ h _ => h.elim)
    have hW := h.old oW
    exact offer_put bm B.qm B.qn bs bx bo ob x p tn W bW.c0 hW.bp ((oW.block _ lqn (fun h => h)).trans hn) bW.c2 bW.c3 (cell_of bW.c1) hW.bv.offp (Or.inr ⟨ob, wk, x, rfl, bW.c4⟩) n1 h.be n3 n4 n5
  · rintro e w' ⟨rfl, W, W', o1, f2, b2, f3⟩
    have fA : Frm (StepF τ t 3) w W' := Frm.trans (Frm.mono o1 (fun _ _ h => h.elim)) f2 (fun k _ hk => Or.inr (Or.inr (by rw [hk]; exact u3.2.1)))
    have fB : Frm (StepF τ t 3) w w' := Frm.trans fA f3 (fun k hk hl => by omega)
    have z1 := o1.size
    have z2 := f2.size
    have lub := hT.lt
    refine ⟨rfl, fB, h.upd3 fB (fun k hk _ => by unfold StepF at hk; omega) ?_ ⟨tn, (f3.block _ (by omega) (by omega)).trans b2⟩ ⟨ob, rfl, ?_⟩ (fun a ha => by cases ha; exact tg.2.2.2.2), ?_⟩
    · exact frm_cell f3 (frm_cell f2 (o1.cell h.bp) (fun e => h.be e.symm)) (by simp only; omega)
    · exact (f3.block ob (by omega) (by omega)).trans ((f2.block ob (by omega) n6).trans ((o1.block ob lob (fun h => h)).trans b.c4))
    · exact ((hT.frm o1 (fun h => h)).frm f2 (fun e => by rw [e] at hu; omega)).frm f3 (by omega)
end Go.Proofs.Ytpnnfkgnkalhlaa

/- Ops that are done in one step. -/
namespace Go.Proofs.Ytpnnfkgnkalhlaa
open Go.RowKit Go.Lib Go.Maps
variable {G : Nat → Option Value}


set_option maxRecDepth 100000 in
set_option maxHeartbeats 4000000 in
theorem at_once_do2 (bf f : Nat) (b : Array Value) (v : Int) (y : Bool) (w : World) (S : Nat → Prop) (hS : ∀ k, S k → k < w.heap.size) (T : World → Prop)
    (eg : ∀ args w, (callFunc f args).run Try.prog w = .ok (.enter f args) w)
    (h1 : w.cell? ⟨bf, 0, none⟩ = some (.func (.func f) #[] b))
    (hD : ∀ W, Old w W → w.heap.size < W.heap.size → Calls Try.prog f b W fun e W' => e = .returned (ans v y) ∧ Frm S W W' ∧ T W') :
    Calls Try.prog 83 #[.pointer (some ⟨bf, 0, none⟩)] w fun e w' => e = .returned (.tuple #[ans v y, .bool true]) ∧ Frm S w w' ∧ ∃ W', T W' ∧ Frm (fun k => k = w.heap.size) W' w' := by
  have l1 := World.block_lt_of_cell? w _ h1
  simp only at l1
  have kD := hid hD
  have kn := hid (heap_new w (.cells #[.int .i64 0, .bool false, .int .i64 0] 52))
  have ko := hid ((Old.refl w).alloc (.cells #[.int .i64 0, .bool false, .int .i64 0] 52))
  clear hD
  go_enter Try.func83, Try.ntmps83
  go_wp2_with fail
  refine (kD.out _ ko.out (by simp only [World.alloc, Array.size_push]; omega)).mono ?_
  rintro e W1 ⟨rfl, fr, t⟩
  have m1 := (fr.block w.heap.size (Array.getElem?_eq_some_iff.1 kn.out).1 (fun h => by have := hS _ h; omega)).trans kn.out
  have f1 : Frm S w W1 := Frm.trans (Frm.mono ko.out (fun _ _ h => h.elim)) fr (fun _ _ h => h)
  obtain ⟨c0, c1, c2, z0⟩ := three_cells m1
  have z00 := z0 0
  have z01 := z0 1
  have z02 := z0 2
  obtain ⟨s, hs⟩ : ∃ s, w.heap.size = s := ⟨_, rfl⟩
  have km1 := hid m1
  have kf := hid f1
  have kt := hid t
  unfold ans
  clear m1 f1 fr t kD z0 kn ko
  rw [hs] at km1 c0 c1 c2 z00 z01 z02 ⊢
  go_wp2
  obtain ⟨g1, g2⟩ := set_three (a' := .int .i64 v) (b' := .bool y) (c' := .int .i64 0) km1.out
  obtain ⟨W2, e2⟩ : ∃ W2, ((W1.setCell ⟨s, 0, none⟩ (.int .i64 v)).setCell ⟨s, 1, none⟩ (.bool y)).setCell ⟨s, 2, none⟩ (.int .i64 0) = W2 := ⟨_, rfl⟩
  rw [e2] at g1 g2 ⊢
  obtain ⟨p0, p1, p2, _⟩ := three_cells g1
  refine bodyPost_ret (v := .tuple #[ans v y, .bool true]) ?_ rfl ⟨rfl, Frm.trans kf.out g2 (fun k hk e => by omega), W1, kt.out, Frm.mono g2 (fun k _ e => by omega)⟩
  simp [results, Try.f83, go_sem, p0, p1, p2, ans]


set_option maxRecDepth 100000 in
set_option maxHeartbeats 4000000 in
/-- The first step: a look. -/
theorem step_look2 (tb q f : Nat) (b : Array Value) (p : Value) (v : Int) (y d : Bool) (w : World) (h : TurnC G w tb q (.func (.func f) #[] b) p false) (S : Nat → Prop) (hS : ∀ k, S k → k < w.heap.size) (T : World → Prop)
    (eg : ∀ args w, (callFunc f args).run Try.prog w = .ok (.enter f args) w)
    (hL : ∀ W, Frm (fun k => k = tb) w W → TurnC G W tb q (.func (.func f) #[] b) p true → w.heap.size < W.heap.size → Calls Try.prog f b W fun e W' => e = .returned (.tuple #[ans v y, .bool d]) ∧ Frm S W W' ∧ T W') :
    Calls Try.prog 45 #[.pointer (some ⟨tb, q, none⟩)] w fun e w' => e = .returned (.tuple #[ans v y, .bool d]) ∧ ∃ W W', Frm (fun k => k = tb) w W ∧ TurnC G W tb q (.func (.func f) #[] b) p true ∧ Frm S W W' ∧ T W' ∧ w.heap.size < W.heap.size ∧ Frm (fun k => k = w.heap.size) W' w' := by
  have l := h.lt
  have c0 := h.c0
  have c2 := h.c2
  have z2 := h.fz (q + 2)
  obtain ⟨W0, x0, n0, f0, t0⟩ : ∃ W0, (w.setCell ⟨tb, q + 2, none⟩ (.bool true)).alloc (.cells #[.int .i64 0, .bool false, .int .i64 0] 52) = W0 ∧ W0.heap[w.heap.size]? = some (.cells #[.int .i64 0, .bool false, .int .i64 0] 52 (0, 0)) ∧ Frm (fun k => k = tb) w W0 ∧ TurnC G W0 tb q (.func (.func f) #[] b) p true := by
    refine ⟨_, rfl, ?_, (frm_set w tb (q + 2) (.bool true)).alloc _, ?_⟩
    · have := heap_new (w.setCell ⟨tb, q + 2, none⟩ (.bool true)) (.cells #[.int .i64 0, .bool false, .int .i64 0] 52)
      rwa [show (w.setCell ⟨tb, q + 2, none⟩ (.bool true)).heap.size = w.heap.size by simp [World.setCell]] at this
    · exact TurnC.frm (⟨(World.cell?_setCell_other _ ⟨tb, q + 2, none⟩ ⟨tb, q, none⟩ _ (by simp)).trans h.c0, (World.cell?_setCell_other _ ⟨tb, q + 2, none⟩ ⟨tb, q + 1, none⟩ _ (by simp)).trans h.c1, World.cell?_setCell_same _ _ _ h.c2, fun i => by simp [h.fz i], fun i hi => (World.cell?_setCell_other _ ⟨tb, q + 2, none⟩ ⟨tb, i, none⟩ _ (by simp <;> omega)).trans (h.rest i hi)⟩ : TurnC G (w.setCell ⟨tb, q + 2, none⟩ (.bool true)) tb q (.func (.func f) #[] b) p true) ((Old.refl _).alloc _) (fun h => h)
  have kx := hid x0
  clear x0
  have lz := (Array.getElem?_eq_some_iff.1 n0).1
  have kL := hid (hL W0 f0 t0 lz)
  have klz := hid lz
  clear lz
  have kf := hid f0
  have kt := hid t0
  have kn := hid n0
  have c00 : (w.setCell ⟨tb, q + 2, none⟩ (.bool true)).cell? ⟨tb, q, none⟩ = some (.func (.func f) #[] b) := (World.cell?_setCell_other _ ⟨tb, q + 2, none⟩ ⟨tb, q, none⟩ _ (by simp)).trans h.c0
  have hS' := hid hS
  clear hL h f0 t0 n0 hS
  go_enter Try.func45, Try.ntmps45
  go_wp2_with fail
  rw [kx.out]
  clear kx
  refine kL.out.mono ?_
  rintro e W1 ⟨rfl, fr, t⟩
  have hz := (Array.getElem?_eq_some_iff.1 kn.out).1
  have hm := (fr.block w.heap.size hz (fun h => by have := hS'.out _ h; omega)).trans kn.out
  obtain ⟨s, hs⟩ : ∃ s, w.heap.size = s := ⟨_, rfl⟩
  rw [hs] at hm ⊢
  have km := hid hm
  have kfr := hid fr
  have ktt := hid t
  clear hm fr t kL kn hz
  obtain ⟨d0, d1, d2, dz⟩ := three_cells km.out
  have z00 := dz 0
  have z01 := dz 1
  have z02 := dz 2
  unfold ans
  clear dz
  go_wp2
  obtain ⟨g1, g2⟩ := set_three (a' := .int .i64 v) (b' := .bool y) (c' := .int .i64 0) km.out
  obtain ⟨W3, e3⟩ : ∃ W3, ((W1.setCell ⟨s, 0, none⟩ (.int .i64 v)).setCell ⟨s, 1, none⟩ (.bool y)).setCell ⟨s, 2, none⟩ (.int .i64 0) = W3 := ⟨_, rfl⟩
  rw [e3] at g1 g2 ⊢
  obtain ⟨p0, p1, p2, _⟩ := three_cells g1
  refine bodyPost_ret (v := .tuple #[ans v y, .bool d]) ?_ rfl ⟨rfl, W0, W1, kf.out, kt.out, kfr.out, ktt.out, by have := klz.out; omega, Frm.mono g2 (fun k _ e => by omega)⟩
  simp [results, Try.f45, go_sem, p0, p1, p2, ans]


theorem e83 : ∀ args w, (callFunc 83 args).run Try.prog w = .ok (.enter 83 args) w := enters_of Try.func83 (by kernel_rfl) rfl
theorem e82 : ∀ args w, (callFunc 82 args).run Try.prog w = .ok (.enter 82 args) w := enters_of Try.func82 (by kernel_rfl) rfl
theorem e71 : ∀ args w, (callFunc 71 args).run Try.prog w = .ok (.enter 71 args) w := enters_of Try.func71 (by kernel_rfl) rfl
theorem e64 : ∀ args w, (callFunc 64 args).run Try.prog w = .ok (.enter 64 args) w := enters_of Try.func64 (by kernel_rfl) rfl

def once1 (bf : Nat) : Value := .func (.func 83) #[] #[.pointer (some ⟨bf, 0, none⟩)]

/-- The step of an op that is done at once, by a function f in a box of its own. -/
theorem step_once (ub q bf f : Nat) (b : Array Value) (pv : Value) (v : Int) (y : Bool) (w : World) (hT : TurnC G w ub q (once1 bf) pv false) (hf : w.cell? ⟨bf, 0, none⟩ = some (.func (.func f) #[] b)) (hne : bf ≠ ub) (eg : ∀ args w, (callFunc f args).run Try.prog w = .ok (.enter f args) w) (S : Nat → Prop) (hS : ∀ k, S k → k < w.heap.size) (hu : ¬ S ub) (T : Nat → World → Prop)
    (hD : ∀ W, Frm (fun k => k = ub) w W → w.heap.size < W.heap.size → Calls Try.prog f b W fun e W' => e = .returned (ans v y) ∧ Frm S W W' ∧ T W.heap.size W') :
    Calls Try.prog 45 #[.pointer (some ⟨ub, q, none⟩)] w fun e w' => e = .returned (.tuple #[ans v y, .bool true]) ∧ Frm (fun k => k = ub ∨ S k) w w' ∧ TurnC G w' ub q (once1 bf) pv true ∧ ∃ m W', w.heap.size < m ∧ T m W' ∧ Frm (fun k => w.heap.size ≤ k ∧ k < m) W' w' := by
  have lub := hT.lt
  refine (step_look2 ub q _ _ _ v y true w hT S hS (fun W' => ∃ m W2, w.heap.size < m ∧ T m W2 ∧ Frm (fun k => w.heap.size ≤ k ∧ k < m) W2 W') e83 ?_).mono ?_
  · intro W fW _ lW
    have zW := fW.size
    refine (at_once_do2 bf f b v y W S (fun k hk => by have := hS k hk; omega) (fun W2 => ∃ m, W.heap.size < m ∧ T m W2) eg (frm_cell fW hf hne) ?_).mono ?_
    · intro W2 o2 l2
      refine (hD W2 (Frm.trans fW o2 (fun _ _ h => h.elim)) (by omega)).mono ?_
      rintro e W3 ⟨rfl, f3, t3⟩
      exact ⟨rfl, f3, _, l2, t3⟩
    · rintro e W' ⟨rfl, f2, W2, ⟨m, lm, t2⟩, f3⟩
      exact ⟨rfl, f2, m, W2, by omega, t2, Frm.mono f3 (fun k _ hk => by omega)⟩
  · rintro e w' ⟨rfl, W, W', f1, t1, f2, ⟨m, W2, lm, t2, f4⟩, lW, f3⟩
    refine ⟨rfl, Frm.trans (Frm.trans (Frm.mono f1 (fun _ _ h => Or.inl h)) f2 (fun _ _ h => Or.inr h)) f3 (fun k hk hl => by omega), (t1.frm f2 hu).frm f3 (by omega), m, W2, lm, t2, Frm.trans f4 f3 (fun k _ hk => by omega)⟩

/-- The boxes of an adding. -/
structure Box1 (w : World) (cm wk : Nat) (x : Int) (bf b1 b2 b3 : Nat) : Prop where
  cf : w.cell? ⟨bf, 0, none⟩ = some (.func (.func 82) #[] #[.pointer (some ⟨b1, 0, none⟩), .pointer (some ⟨b2, 0, none⟩), .pointer (some ⟨b3, 0, none⟩)])
  c1 : w.cell? ⟨b1, 0, none⟩ = some (.pointer (some ⟨cm, 0, none⟩))
  c2 : w.cell? ⟨b2, 0, none⟩ = some (.int .i64 wk)
  c3 : w.cell? ⟨b3, 0, none⟩ = some (.int .i64 x)

theorem step1_any (ub q : Nat) (τ : Nat → Nat) (B : Names) (p : Option Addr) (s : St) (t wk : Nat) (ht : 8 < t) (x : Int) (bf b1 b2 b3 : Nat) (w : World) (h : BenchS w τ B p s) (b : Box1 w B.cm wk x bf b1 b2 b3) (tg : τ bf = t ∧ τ b1 = t ∧ τ b2 = t ∧ τ b3 = t) (hu : τ ub = 8) (hT : TurnC G w ub q (once1 bf) .nilFunc false) (hL : s.L.length ≤ 64) (hk : wk < s.L.length) :
    Calls Try.prog 45 #[.pointer (some ⟨ub, q, none⟩)] w fun e w' => e = .returned (.tuple #[ans (IntKind.i64.wrap (s.L[wk]! + x)) true, .bool true]) ∧ Frm (StepF τ t 1) w w' ∧ TurnC G w' ub q (once1 bf) .nilFunc true ∧ ∃ τ', (∀ k, k < w.heap.size → τ' k = τ k) ∧ (∀ k, w.heap.size ≤ k → τ' k = τ k ∨ τ' k = 1 ∧ k < w'.heap.size) ∧ BenchS w' τ' B p { s with L := s.L.set wk (IntKind.i64.wrap (s.L[wk]! + x)) } := by
  obtain ⟨lb, sb, hx, u1, u2⟩ := h.cnt
  obtain ⟨c, hcs⟩ := hx.cnt
  obtain ⟨tr, hr⟩ := hx.row
  have ut := h.t1
  have lcn : B.cn < w.heap.size := (Array.getElem?_eq_some_iff.1 hcs.num.choose_spec).1
  have lcm : B.cm < w.heap.size := World.block_lt_of_cell? w ⟨B.cm, 0, none⟩ hcs.ptr
  have n1 : ∀ k, τ k = t → k ≠ ub := fun k hk e => by rw [e] at hk; omega
  have n2 : ∀ k, τ k = 1 → k ≠ ub := fun k hk e => by rw [e] at hk; omega
  refine (step_once ub q bf _ _ .nilFunc (IntKind.i64.wrap (s.L[wk]! + x)) true w hT b.cf (n1 _ tg.1) e82 (fun k => k = B.cn) (fun k hk => by omega) (fun e => n2 _ ut.2 e.symm) (fun m W' => ∃ lb' sb', m ≤ lb' ∧ m ≤ sb' ∧ CountX W' B.cm B.cn lb' sb' (s.L.set wk (IntKind.i64.wrap (s.L[wk]! + x)))) ?_).mono ?_
  · intro W fW _
    refine (adding1 b1 b2 b3 B.cm B.cn lb sb wk x s.L W (hx.frm fW (n2 _ ut.1) (n2 _ ut.2) (n2 _ u1) (n2 _ u2)) (frm_cell fW b.c1 (n1 _ tg.2.1)) (frm_cell fW b.c2 (n1 _ tg.2.2.1)) (frm_cell fW b.c3 (n1 _ tg.2.2.2)) hL hk).mono ?_
    rintro e W' ⟨rfl, f, lb', sb', l1, l2, hX⟩
    exact ⟨rfl, f, lb', sb', l1, l2, hX⟩
  · rintro e w' ⟨rfl, f, tT, m, W', lm, ⟨lb', sb', l1, l2, hX⟩, f3⟩
    have fB : Frm (StepF τ t 1) w w' := Frm.mono f (fun k _ hk => hk.elim (fun hk => Or.inl (by rw [hk]; exact hu)) (fun hk => Or.inr (Or.inr (by rw [hk]; exact ut.2))))
    have hX' := hX.frm f3 (by omega) (by omega) (by omega) (by omega)
    have llb : lb' < w'.heap.size := (Array.getElem?_eq_some_iff.1 (show w'.heap[lb']? = _ from hX'.cnt.choose_spec.list)).1
    have lsb : sb' < w'.heap.size := (Array.getElem?_eq_some_iff.1 hX'.row.choose_spec).1
    refine ⟨rfl, fB, tT, fun k => if k = lb' ∨ k = sb' then 1 else τ k, fun k hk => if_neg (by omega), fun k hk => ?_, ?_⟩
    · by_cases e : k = lb' ∨ k = sb'
      · exact Or.inr ⟨if_pos e, by omega⟩
      · exact Or.inl (if_neg e)
    · have hre : BenchS w (fun k => if k = lb' ∨ k = sb' then 1 else τ k) B p s := h.retag (fun k hk => if_neg (by omega))
      refine hre.upd1 fB (fun k hk hl => ?_) ⟨lb', sb', hX', if_pos (Or.inl rfl), if_pos (Or.inr rfl)⟩
      have e1 : (if k = lb' ∨ k = sb' then 1 else τ k) = τ k := if_neg (by omega)
      rw [e1]
      unfold StepF at hk
      omega
end Go.Proofs.Ytpnnfkgnkalhlaa
