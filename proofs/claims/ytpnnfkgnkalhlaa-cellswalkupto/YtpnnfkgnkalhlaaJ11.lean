/- Ops under way, as plain words; a mark's. -/
import Derived.Test.YtpnnfkgnkalhlaaK38
namespace Go.Proofs.Ytpnnfkgnkalhlaa
open Go.RowKit Go.Lib Go.Maps
variable {G : Nat → Option Value}

/-- What was looked at: a number, or a best. -/
abbrev Sn := Int × Option (Int × Int)

def lookS (s : St) (kd : Int) : Sn := if kd = 3 then (0, s.bs) else if kd = 2 then (s.mr, none) else (s.tk, none)
/-- What is answered where there is nothing to be put. -/
def idleS (s : St) (wk kd x : Int) : Option (Int × Bool) :=
  if kd = 2 then (if x ≤ s.mr then some (s.mr, false) else none) else if kd = 3 then (if takesIt wk x s.bs then none else some (x, false)) else (if s.ts ≤ s.tk then some (0, false) else none)
/-- What a put leaves, and what is answered. -/
def putS (s : St) (wk kd x : Int) : St × Int × Bool :=
  if kd = 2 then ({ s with mr := x }, s.mr, true) else if kd = 3 then ({ s with bs := some (wk, x) }, x, true) else ({ s with tk := s.tk + 1 }, s.tk, true)
/-- What is done at once. -/
def doS (s : St) (wk : Nat) (kd x : Int) : St × Int × Bool :=
  if kd = 1 then ({ s with L := s.L.set wk (IntKind.i64.wrap (s.L[wk]! + x)) }, IntKind.i64.wrap (s.L[wk]! + x), true) else if kd = 4 then ({ s with ar := s.ar + 1 }, s.ar, decide (s.gt ≤ s.ar + 1)) else (s, 0, false)
/-- A step of an op: what stands then, what was looked at, what is answered if it is done. -/
def stepS (s : St) (wk : Nat) (kd x : Int) (sn : Option Sn) : St × Option Sn × Option (Int × Bool) :=
  if kd = 2 ∨ kd = 3 ∨ kd = 5 then
    if sn = some (lookS s kd) then ((putS s wk kd x).1, none, some (putS s wk kd x).2)
    else match idleS s wk kd x with
      | some a => (s, none, some a)
      | none => (s, some (lookS s kd), none)
  else ((doS s wk kd x).1, none, some (doS s wk kd x).2)

theorem e68 : ∀ args w, (callFunc 68 args).run Try.prog w = .ok (.enter 68 args) w := enters_of Try.func68 (by kernel_rfl) rfl
theorem e69 : ∀ args w, (callFunc 69 args).run Try.prog w = .ok (.enter 69 args) w := enters_of Try.func69 (by kernel_rfl) rfl

/-- The boxes of a raising: its tag is t. -/
structure Box2 (w : World) (τ : Nat → Nat) (t mm : Nat) (x v : Int) (bm bs bx : Nat) : Prop where
  c0 : w.cell? ⟨bm, 0, none⟩ = some (.pointer (some ⟨mm, 0, none⟩))
  c1 : w.heap[bs]? = some (.cells #[.int .i64 v] 2 (0, 0))
  c2 : w.cell? ⟨bx, 0, none⟩ = some (.int .i64 x)
  tg : τ bm = t ∧ τ bs = t ∧ τ bx = t
  ne : bs ≠ bm ∧ bs ≠ bx

theorem Box2.frm {w w' : World} {S : Nat → Prop} {τ : Nat → Nat} {t mm : Nat} {x v : Int} {bm bs bx : Nat} (h : Box2 w τ t mm x v bm bs bx) (f : Frm S w w') (hS : ∀ k, S k → k < w.heap.size → τ k ≠ t) : Box2 w' τ t mm x v bm bs bx :=
  ⟨frm_cell f h.c0 (fun e => hS _ e (World.block_lt_of_cell? w _ h.c0) h.tg.1), (f.block bs (Array.getElem?_eq_some_iff.1 h.c1).1 (fun e => hS _ e (Array.getElem?_eq_some_iff.1 h.c1).1 h.tg.2.1)).trans h.c1, frm_cell f h.c2 (fun e => hS _ e (World.block_lt_of_cell? w _ h.c2) h.tg.2.2), h.tg, h.ne⟩

def look2 (bm bs bx : Nat) : Value := .func (.func 68) #[] #[.pointer (some ⟨bm, 0, none⟩), .pointer (some ⟨bs, 0, none⟩), .pointer (some ⟨bx, 0, none⟩)]
def put2 (bm bs bx : Nat) : Value := .func (.func 69) #[] #[.pointer (some ⟨bs, 0, none⟩), .pointer (some ⟨bm, 0, none⟩), .pointer (some ⟨bx, 0, none⟩)]

/-- What a step of a worker leaves alone: all but the turns (tag 8), what is its own (tag t), and a cell of tag i. -/
def StepF (τ : Nat → Nat) (t i : Nat) : Nat → Prop := fun k => τ k = 8 ∨ τ k = t ∨ τ k = i

theorem look2_any (τ : Nat → Nat) (B : Names) (p : Option Addr) (s : St) (t : Nat) (x v : Int) (bm bs bx : Nat) (w : World) (h : BenchS w τ B p s) (b : Box2 w τ t B.mm x v bm bs bx) :
    Calls Try.prog 68 #[.pointer (some ⟨bm, 0, none⟩), .pointer (some ⟨bs, 0, none⟩), .pointer (some ⟨bx, 0, none⟩)] w fun e w' => e = .returned (.tuple #[ans s.mr false, .bool (decide (x ≤ s.mr))]) ∧ Frm (fun k => k = bs) w w' ∧ Box2 w' τ t B.mm x s.mr bm bs bx := by
  refine (mark_look bm B.mm B.mn bs bx s.mr x v w b.c0 h.mrk.ptr (cell_of h.mrk.num.choose_spec) b.c2 b.c1 b.ne.2).mono ?_
  rintro e w' ⟨rfl, f, hb⟩
  exact ⟨rfl, f, frm_cell f b.c0 (fun e => b.ne.1 e.symm), hb, frm_cell f b.c2 (fun e => b.ne.2 e.symm), b.tg, b.ne⟩

theorem step2_first (ub q : Nat) (τ : Nat → Nat) (B : Names) (p : Option Addr) (s : St) (t : Nat) (ht : 8 < t) (x v : Int) (bm bs bx : Nat) (w : World) (h : BenchS w τ B p s) (b : Box2 w τ t B.mm x v bm bs bx) (hu : τ ub = 8) (hT : TurnC G w ub q (look2 bm bs bx) (put2 bm bs bx) false) :
    Calls Try.prog 45 #[.pointer (some ⟨ub, q, none⟩)] w fun e w' => e = .returned (.tuple #[ans s.mr false, .bool (decide (x ≤ s.mr))]) ∧ Frm (StepF τ t 8) w w' ∧ BenchS w' τ B p s ∧ TurnC G w' ub q (look2 bm bs bx) (put2 bm bs bx) true ∧ Box2 w' τ t B.mm x s.mr bm bs bx := by
  have lb : bs < w.heap.size := (Array.getElem?_eq_some_iff.1 b.c1).1
  have tg := b.tg
  refine (step_look ub q _ _ _ s.mr false (decide (x ≤ s.mr)) w hT (fun k => k = bs) (fun k hk => by omega) (fun W' => Box2 W' τ t B.mm x s.mr bm bs bx) e68 ?_).mono ?_
  · intro W fW _
    exact look2_any τ B p s t x v bm bs bx W (h.frm fW (fun k hk _ => by rw [hk]; omega)) (b.frm fW (fun k hk _ => by rw [hk]; omega))
  · rintro e w' ⟨rfl, W, W', f1, t1, f2, b2, f3⟩
    have fA : Frm (StepF τ t 8) w W' := Frm.trans (Frm.mono f1 (fun k _ hk => Or.inl (by rw [hk]; exact hu))) f2 (fun k _ hk => Or.inr (Or.inl (by rw [hk]; exact tg.2.1)))
    have fB : Frm (StepF τ t 8) w w' := Frm.trans fA f3 (fun k hk hl => by omega)
    have z1 := f1.size
    have z2 := f2.size
    have lub := hT.lt
    refine ⟨rfl, fB, h.frm fB (fun k hk _ => by unfold StepF at hk; omega), ?_, ?_⟩
    · exact (t1.frm f2 (fun e => by rw [e] at hu; omega)).frm f3 (by omega)
    · have hbm : bm < w.heap.size := World.block_lt_of_cell? w ⟨bm, 0, none⟩ b.c0
      have hbx : bx < w.heap.size := World.block_lt_of_cell? w ⟨bx, 0, none⟩ b.c2
      exact ⟨frm_cell f3 b2.c0 (by simp only; omega), (f3.block bs (by omega) (by omega)).trans b2.c1, frm_cell f3 b2.c2 (by simp only; omega), tg, b.ne⟩

theorem step2_put (ub q : Nat) (τ : Nat → Nat) (B : Names) (p : Option Addr) (s : St) (t : Nat) (ht : 8 < t) (x : Int) (bm bs bx : Nat) (w : World) (h : BenchS w τ B p s) (b : Box2 w τ t B.mm x s.mr bm bs bx) (hu : τ ub = 8) (hT : TurnC G w ub q (look2 bm bs bx) (put2 bm bs bx) true) :
    Calls Try.prog 45 #[.pointer (some ⟨ub, q, none⟩)] w fun e w' => e = .returned (.tuple #[ans s.mr true, .bool true]) ∧ Frm (StepF τ t 2) w w' ∧ BenchS w' τ B p { s with mr := x } ∧ TurnC G w' ub q (look2 bm bs bx) (put2 bm bs bx) true := by
  have tg := b.tg
  have u2 := h.t2
  obtain ⟨tn, hn⟩ := h.mrk.num
  have lmn : B.mn < w.heap.size := (Array.getElem?_eq_some_iff.1 hn).1
  have lmm : B.mm < w.heap.size := World.block_lt_of_cell? w ⟨B.mm, 0, none⟩ h.mrk.ptr
  have n1 : B.mn ≠ bm := fun e => by rw [e] at u2; omega
  have n3 : B.mn ≠ bs := fun e => by rw [e] at u2; omega
  have n4 : B.mn ≠ bx := fun e => by rw [e] at u2; omega
  refine (step_put ub q _ _ _ s.mr true w hT (fun k => k = B.mn) (fun k hk => by omega) (fun W' => W'.heap[B.mn]? = some (.cells #[.int .i64 x] tn (0, 0))) e69 ?_).mono ?_
  · intro W oW
    have bW := b.frm oW (fun _ h _ => h.elim)
    exact mark_put bm B.mm B.mn bs bx s.mr x tn W bW.c0 (oW.cell h.mrk.ptr) ((oW.block _ lmn (fun h => h)).trans hn) bW.c2 (cell_of bW.c1) n1 h.mrk.ne n3 n4
  · rintro e w' ⟨rfl, W, W', o1, f2, b2, f3⟩
    have fA : Frm (StepF τ t 2) w W' := Frm.trans (Frm.mono o1 (fun _ _ h => h.elim)) f2 (fun k _ hk => Or.inr (Or.inr (by rw [hk]; exact u2.2)))
    have fB : Frm (StepF τ t 2) w w' := Frm.trans fA f3 (fun k hk hl => by omega)
    have z1 := o1.size
    have z2 := f2.size
    have lub := hT.lt
    refine ⟨rfl, fB, h.upd2 fB (fun k hk _ => by unfold StepF at hk; omega) ⟨?_, ⟨tn, (f3.block _ (by omega) (by omega)).trans b2⟩, h.mrk.ne⟩, ?_⟩
    · exact frm_cell f3 (frm_cell f2 (o1.cell h.mrk.ptr) (fun e => h.mrk.ne e.symm)) (by simp only; omega)
    · exact ((hT.frm o1 (fun h => h)).frm f2 (fun e => by rw [e] at hu; omega)).frm f3 (by omega)

theorem step2_miss (ub q : Nat) (τ : Nat → Nat) (B : Names) (p : Option Addr) (s : St) (t : Nat) (ht : 8 < t) (x v : Int) (hv : s.mr ≠ v) (bm bs bx : Nat) (w : World) (h : BenchS w τ B p s) (b : Box2 w τ t B.mm x v bm bs bx) (hu : τ ub = 8) (hT : TurnC G w ub q (look2 bm bs bx) (put2 bm bs bx) true) :
    Calls Try.prog 45 #[.pointer (some ⟨ub, q, none⟩)] w fun e w' => e = .returned (.tuple #[ans s.mr false, .bool (decide (x ≤ s.mr))]) ∧ Frm (StepF τ t 8) w w' ∧ BenchS w' τ B p s ∧ TurnC G w' ub q (look2 bm bs bx) (put2 bm bs bx) true ∧ Box2 w' τ t B.mm x s.mr bm bs bx := by
  have lb : bs < w.heap.size := (Array.getElem?_eq_some_iff.1 b.c1).1
  have tg := b.tg
  refine (step_miss ub q _ _ _ _ v s.mr true false (decide (x ≤ s.mr)) w hT (fun k => k = bs) (fun k hk => by omega) (fun W' => Box2 W' τ t B.mm x s.mr bm bs bx) e69 e68 ?_ ?_).mono ?_
  · intro W oW
    have bW := b.frm oW (fun _ h _ => h.elim)
    have hW := h.old oW
    exact mark_miss bm B.mm B.mn bs bx s.mr v x hv _ W bW.c0 hW.mrk.ptr hW.mrk.num.choose_spec bW.c2 (cell_of bW.c1)
  · intro W fW _
    exact look2_any τ B p s t x v bm bs bx W (h.frm fW (fun k hk _ => by rw [hk]; omega)) (b.frm fW (fun k hk _ => by rw [hk]; omega))
  · rintro e w' ⟨rfl, W, W', f1, t1, f2, b2, f3⟩
    have fA : Frm (StepF τ t 8) w W' := Frm.trans (Frm.mono f1 (fun k _ hk => Or.inl (by rw [hk]; exact hu))) f2 (fun k _ hk => Or.inr (Or.inl (by rw [hk]; exact tg.2.1)))
    have fB : Frm (StepF τ t 8) w w' := Frm.trans fA f3 (fun k hk hl => by omega)
    have z1 := f1.size
    have z2 := f2.size
    have lub := hT.lt
    refine ⟨rfl, fB, h.frm fB (fun k hk _ => by unfold StepF at hk; omega), ?_, ?_⟩
    · exact (t1.frm f2 (fun e => by rw [e] at hu; omega)).frm f3 (by omega)
    · have hbm : bm < w.heap.size := World.block_lt_of_cell? w ⟨bm, 0, none⟩ b.c0
      have hbx : bx < w.heap.size := World.block_lt_of_cell? w ⟨bx, 0, none⟩ b.c2
      exact ⟨frm_cell f3 b2.c0 (by simp only; omega), (f3.block bs (by omega) (by omega)).trans b2.c1, frm_cell f3 b2.c2 (by simp only; omega), tg, b.ne⟩
end Go.Proofs.Ytpnnfkgnkalhlaa

/- Ops under way: a taking's. -/
namespace Go.Proofs.Ytpnnfkgnkalhlaa
open Go.RowKit Go.Lib Go.Maps
variable {G : Nat → Option Value}

theorem e73 : ∀ args w, (callFunc 73 args).run Try.prog w = .ok (.enter 73 args) w := enters_of Try.func73 (by kernel_rfl) rfl
theorem e74 : ∀ args w, (callFunc 74 args).run Try.prog w = .ok (.enter 74 args) w := enters_of Try.func74 (by kernel_rfl) rfl

/-- The boxes of a taking: its tag is t. -/
structure Box5 (w : World) (τ : Nat → Nat) (t tm : Nat) (v : Int) (bm bs : Nat) : Prop where
  c0 : w.cell? ⟨bm, 0, none⟩ = some (.pointer (some ⟨tm, 0, none⟩))
  c1 : w.heap[bs]? = some (.cells #[.int .i64 v] 2 (0, 0))
  tg : τ bm = t ∧ τ bs = t
  ne : bs ≠ bm

theorem Box5.frm {w w' : World} {S : Nat → Prop} {τ : Nat → Nat} {t tm : Nat} {v : Int} {bm bs : Nat} (h : Box5 w τ t tm v bm bs) (f : Frm S w w') (hS : ∀ k, S k → k < w.heap.size → τ k ≠ t) : Box5 w' τ t tm v bm bs :=
  ⟨frm_cell f h.c0 (fun e => hS _ e (World.block_lt_of_cell? w _ h.c0) h.tg.1), (f.block bs (Array.getElem?_eq_some_iff.1 h.c1).1 (fun e => hS _ e (Array.getElem?_eq_some_iff.1 h.c1).1 h.tg.2)).trans h.c1, h.tg, h.ne⟩

def look5 (bm bs : Nat) : Value := .func (.func 73) #[] #[.pointer (some ⟨bm, 0, none⟩), .pointer (some ⟨bs, 0, none⟩)]
def put5 (bm bs : Nat) : Value := .func (.func 74) #[] #[.pointer (some ⟨bs, 0, none⟩), .pointer (some ⟨bm, 0, none⟩)]

theorem look5_any (τ : Nat → Nat) (B : Names) (p : Option Addr) (s : St) (t : Nat) (v : Int) (bm bs : Nat) (ht : 8 < t) (w : World) (h : BenchS w τ B p s) (b : Box5 w τ t B.tm v bm bs) :
    Calls Try.prog 73 #[.pointer (some ⟨bm, 0, none⟩), .pointer (some ⟨bs, 0, none⟩)] w fun e w' => e = .returned (.tuple #[ans 0 false, .bool (decide (s.ts ≤ s.tk))]) ∧ Frm (fun k => k = bs) w w' ∧ Box5 w' τ t B.tm s.tk bm bs := by
  refine (take_look bm B.tm B.tn bs s.tk s.ts v w b.c0 h.tks.ptr (cell_of h.tks.num.choose_spec) h.tks.many b.c1 (fun e => by have := b.tg; have := h.t5; rw [e] at *; omega) b.ne).mono ?_
  rintro e w' ⟨rfl, f, hb⟩
  exact ⟨rfl, f, frm_cell f b.c0 (fun e => b.ne e.symm), hb, b.tg, b.ne⟩

theorem step5_first (ub q : Nat) (τ : Nat → Nat) (B : Names) (p : Option Addr) (s : St) (t : Nat) (ht : 8 < t) (v : Int) (bm bs : Nat) (w : World) (h : BenchS w τ B p s) (b : Box5 w τ t B.tm v bm bs) (hu : τ ub = 8) (hT : TurnC G w ub q (look5 bm bs) (put5 bm bs) false) :
    Calls Try.prog 45 #[.pointer (some ⟨ub, q, none⟩)] w fun e w' => e = .returned (.tuple #[ans 0 false, .bool (decide (s.ts ≤ s.tk))]) ∧ Frm (StepF τ t 8) w w' ∧ BenchS w' τ B p s ∧ TurnC G w' ub q (look5 bm bs) (put5 bm bs) true ∧ Box5 w' τ t B.tm s.tk bm bs := by
  have lb : bs < w.heap.size := (Array.getElem?_eq_some_iff.1 b.c1).1
  have tg := b.tg
  refine (step_look ub q _ _ _ 0 false (decide (s.ts ≤ s.tk)) w hT (fun k => k = bs) (fun k hk => by omega) (fun W' => Box5 W' τ t B.tm s.tk bm bs) e73 ?_).mono ?_
  · intro W fW _
    exact look5_any τ B p s t v bm bs ht W (h.frm fW (fun k hk _ => by rw [hk]; omega)) (b.frm fW (fun k hk _ => by rw [hk]; omega))
  · rintro e w' ⟨rfl, W, W', f1, t1, f2, b2, f3⟩
    have fA : Frm (StepF τ t 8) w W' := Frm.trans (Frm.mono f1 (fun k _ hk => Or.inl (by rw [hk]; exact hu))) f2 (fun k _ hk => Or.inr (Or.inl (by rw [hk]; exact tg.2)))
    have fB : Frm (StepF τ t 8) w w' := Frm.trans fA f3 (fun k hk hl => by omega)
    have z1 := f1.size
    have z2 := f2.size
    have lub := hT.lt
    refine ⟨rfl, fB, h.frm fB (fun k hk _ => by unfold StepF at hk; omega), ?_, ?_⟩
    · exact (t1.frm f2 (fun e => by rw [e] at hu; omega)).frm f3 (by omega)
    · have hbm : bm < w.heap.size := World.block_lt_of_cell? w ⟨bm, 0, none⟩ b.c0
      exact ⟨frm_cell f3 b2.c0 (by simp only; omega), (f3.block bs (by omega) (by omega)).trans b2.c1, tg, b.ne⟩

theorem step5_put (ub q : Nat) (τ : Nat → Nat) (B : Names) (p : Option Addr) (s : St) (hr : IntKind.i64.wrap (s.tk + 1) = s.tk + 1) (t : Nat) (ht : 8 < t) (bm bs : Nat) (w : World) (h : BenchS w τ B p s) (b : Box5 w τ t B.tm s.tk bm bs) (hu : τ ub = 8) (hT : TurnC G w ub q (look5 bm bs) (put5 bm bs) true) :
    Calls Try.prog 45 #[.pointer (some ⟨ub, q, none⟩)] w fun e w' => e = .returned (.tuple #[ans s.tk true, .bool true]) ∧ Frm (StepF τ t 5) w w' ∧ BenchS w' τ B p { s with tk := s.tk + 1 } ∧ TurnC G w' ub q (look5 bm bs) (put5 bm bs) true := by
  have tg := b.tg
  have u2 := h.t5
  obtain ⟨tn, hn⟩ := h.tks.num
  have ltn : B.tn < w.heap.size := (Array.getElem?_eq_some_iff.1 hn).1
  have ltm : B.tm < w.heap.size := World.block_lt_of_cell? w ⟨B.tm, 0, none⟩ h.tks.ptr
  have n1 : B.tn ≠ bm := fun e => by rw [e] at u2; omega
  have n3 : B.tn ≠ bs := fun e => by rw [e] at u2; omega
  refine (step_put ub q _ _ _ s.tk true w hT (fun k => k = B.tn) (fun k hk => by omega) (fun W' => W'.heap[B.tn]? = some (.cells #[.int .i64 (s.tk + 1)] tn (0, 0))) e74 ?_).mono ?_
  · intro W oW
    have bW := b.frm oW (fun _ h _ => h.elim)
    exact take_put bm B.tm B.tn bs s.tk tn W bW.c0 (oW.cell h.tks.ptr) ((oW.block _ ltn (fun h => h)).trans hn) (cell_of bW.c1) n1 h.tks.ne n3 hr
  · rintro e w' ⟨rfl, W, W', o1, f2, b2, f3⟩
    have fA : Frm (StepF τ t 5) w W' := Frm.trans (Frm.mono o1 (fun _ _ h => h.elim)) f2 (fun k _ hk => Or.inr (Or.inr (by rw [hk]; exact u2.2)))
    have fB : Frm (StepF τ t 5) w w' := Frm.trans fA f3 (fun k hk hl => by omega)
    have z1 := o1.size
    have z2 := f2.size
    have lub := hT.lt
    refine ⟨rfl, fB, h.upd5 fB (fun k hk _ => by unfold StepF at hk; omega) ⟨?_, ?_, ⟨tn, (f3.block _ (by omega) (by omega)).trans b2⟩, h.tks.ne⟩, ?_⟩
    · exact frm_cell f3 (frm_cell f2 (o1.cell h.tks.ptr) (fun e => h.tks.ne e.symm)) (by simp only; omega)
    · exact frm_cell f3 (frm_cell f2 (o1.cell h.tks.many) (fun e => h.tks.ne e.symm)) (by simp only; omega)
    · exact ((hT.frm o1 (fun h => h)).frm f2 (fun e => by rw [e] at hu; omega)).frm f3 (by omega)

theorem step5_miss (ub q : Nat) (τ : Nat → Nat) (B : Names) (p : Option Addr) (s : St) (t : Nat) (ht : 8 < t) (v : Int) (hv : s.tk ≠ v) (hr : IntKind.i64.wrap (v + 1) = v + 1) (bm bs : Nat) (w : World) (h : BenchS w τ B p s) (b : Box5 w τ t B.tm v bm bs) (hu : τ ub = 8) (hT : TurnC G w ub q (look5 bm bs) (put5 bm bs) true) :
    Calls Try.prog 45 #[.pointer (some ⟨ub, q, none⟩)] w fun e w' => e = .returned (.tuple #[ans 0 false, .bool (decide (s.ts ≤ s.tk))]) ∧ Frm (StepF τ t 8) w w' ∧ BenchS w' τ B p s ∧ TurnC G w' ub q (look5 bm bs) (put5 bm bs) true ∧ Box5 w' τ t B.tm s.tk bm bs := by
  have lb : bs < w.heap.size := (Array.getElem?_eq_some_iff.1 b.c1).1
  have tg := b.tg
  refine (step_miss ub q _ _ _ _ v 0 true false (decide (s.ts ≤ s.tk)) w hT (fun k => k = bs) (fun k hk => by omega) (fun W' => Box5 W' τ t B.tm s.tk bm bs) e74 e73 ?_ ?_).mono ?_
  · intro W oW
    have bW := b.frm oW (fun _ h _ => h.elim)
    have hW := h.old oW
    exact take_miss bm B.tm B.tn bs s.tk v hv _ W bW.c0 hW.tks.ptr hW.tks.num.choose_spec (cell_of bW.c1) hr
  · intro W fW _
    exact look5_any τ B p s t v bm bs ht W (h.frm fW (fun k hk _ => by rw [hk]; omega)) (b.frm fW (fun k hk _ => by rw [hk]; omega))
  · rintro e w' ⟨rfl, W, W', f1, t1, f2, b2, f3⟩
    have fA : Frm (StepF τ t 8) w W' := Frm.trans (Frm.mono f1 (fun k _ hk => Or.inl (by rw [hk]; exact hu))) f2 (fun k _ hk => Or.inr (Or.inl (by rw [hk]; exact tg.2)))
    have fB : Frm (StepF τ t 8) w w' := Frm.trans fA f3 (fun k hk hl => by omega)
    have z1 := f1.size
    have z2 := f2.size
    have lub := hT.lt
    refine ⟨rfl, fB, h.frm fB (fun k hk _ => by unfold StepF at hk; omega), ?_, ?_⟩
    · exact (t1.frm f2 (fun e => by rw [e] at hu; omega)).frm f3 (by omega)
    · have hbm : bm < w.heap.size := World.block_lt_of_cell? w ⟨bm, 0, none⟩ b.c0
      exact ⟨frm_cell f3 b2.c0 (by simp only; omega), (f3.block bs (by omega) (by omega)).trans b2.c1, tg, b.ne⟩
end Go.Proofs.Ytpnnfkgnkalhlaa
