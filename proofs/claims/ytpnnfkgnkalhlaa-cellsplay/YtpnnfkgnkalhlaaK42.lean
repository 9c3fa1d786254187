/- Ops that are done in one step. -/
import Derived.Test.YtpnnfkgnkalhlaaK41
namespace Go.Proofs.Ytpnnfkgnkalhlaa
open Go.RowKit Go.Lib Go.Maps
variable {G : Nat → Option Value}


set_option maxRecDepth 100000 in
set_option maxHeartbeats 4000000 in
theorem at_once_do2 (bf f : Nat) (b : Array Value) (v : Int) (y : Bool) (w : World) (S : Nat → Prop) (hS : ∀ k, S k → k < w.heap.size) (T : World → Prop)
    (eg : ∀ args w, (callFunc f args).run Try.prog w = .ok (.enter f args) w)
    (h1 : w.cell? ⟨bf, 0, none⟩ = some (.func (.func f) #[] b))
    (hD : ∀ W, Old w W → w.heap.size < W.heap.size → Calls Try.prog f b W fun e W' => e = .returned (ans v y) ∧ Frm S W W' ∧ T W') :
    Calls Try.prog 83 #[.pointer (some ⟨bf, 0, none⟩)] w fun e w' => e = .returned (.tuple #[ans v y, .bool true]) ∧ Frm S w w' ∧ ∃ W', T W' ∧ Frm (fun k => k = w.heap.size) W' w' := by
  have l1 := World.block_lt_of_cell? w _ h1
  simp only at l1
  have kD := hid hD
  have kn := hid (heap_new w (.cells #[.int .i64 0, .bool false, .int .i64 0] 52))
  have ko := hid ((Old.refl w).alloc (.cells #[.int .i64 0, .bool false, .int .i64 0] 52))
  clear hD
  go_enter Try.func83, Try.ntmps83
  go_wp2_with fail
  refine (kD.out _ ko.out (by simp only [World.alloc, Array.size_push]; omega)).mono ?_
  rintro e W1 ⟨rfl, fr, t⟩
  have m1 := (fr.block w.heap.size (Array.getElem?_eq_some_iff.1 kn.out).1 (fun h => by have := hS _ h; omega)).trans kn.out
  have f1 : Frm S w W1 := Frm.trans (Frm.mono ko.out (fun _ _ h => h.elim)) fr (fun _ _ h => h)
  obtain ⟨c0, c1, c2, z0⟩ := three_cells m1
  have z00 := z0 0
  have z01 := z0 1
  have z02 := z0 2
  obtain ⟨s, hs⟩ : ∃ s, w.heap.size = s := ⟨_, rfl⟩
  have km1 := hid m1
  have kf := hid f1
  have kt := hid t
  unfold ans
  clear m1 f1 fr t kD z0 kn ko
  rw [hs] at km1 c0 c1 c2 z00 z01 z02 ⊢
  go_wp2
  obtain ⟨g1, g2⟩ := set_three (a' := .int .i64 v) (b' := .bool y) (c' := .int .i64 0) km1.out
  obtain ⟨W2, e2⟩ : ∃ W2, ((W1.setCell ⟨s, 0, none⟩ (.int .i64 v)).setCell ⟨s, 1, none⟩ (.bool y)).setCell ⟨s, 2, none⟩ (.int .i64 0) = W2 := ⟨_, rfl⟩
  rw [e2] at g1 g2 ⊢
  obtain ⟨p0, p1, p2, _⟩ := three_cells g1
  refine bodyPost_ret (v := .tuple #[ans v y, .bool true]) ?_ rfl ⟨rfl, Frm.trans kf.out g2 (fun k hk e => by omega), W1, kt.out, Frm.mono g2 (fun k _ e => by omega)⟩
  simp [results, Try.f83, go_sem, p0, p1, p2, ans]


set_option maxRecDepth 100000 in
set_option maxHeartbeats 4000000 in
/-- The first step: a look. -/
theorem step_look2 (tb q f : Nat) (b : Array Value) (p : Value) (v : Int) (y d : Bool) (w : World) (h : TurnC G w tb q (.func (.func f) #[] b) p false) (S : Nat → Prop) (hS : ∀ k, S k → k < w.heap.size) (T : World → Prop)
    (eg : ∀ args w, (callFunc f args).run Try.prog w = .ok (.enter f args) w)
    (hL : ∀ W, Frm (fun k => k = tb) w W → TurnC G W tb q (.func (.func f) #[] b) p true → w.heap.size < W.heap.size → Calls Try.prog f b W fun e W' => e = .returned (.tuple #[ans v y, .bool d]) ∧ Frm S W W' ∧ T W') :
    Calls Try.prog 45 #[.pointer (some ⟨tb, q, none⟩)] w fun e w' => e = .returned (.tuple #[ans v y, .bool d]) ∧ ∃ W W', Frm (fun k => k = tb) w W ∧ TurnC G W tb q (.func (.func f) #[] b) p true ∧ Frm S W W' ∧ T W' ∧ w.heap.size < W.heap.size ∧ Frm (fun k => k = w.heap.size) W' w' := by
  have l := h.lt
  have c0 := h.c0
  have c2 := h.c2
  have z2 := h.fz (q + 2)
  obtain ⟨W0, x0, n0, f0, t0⟩ : ∃ W0, (w.setCell ⟨tb, q + 2, none⟩ (.bool true)).alloc (.cells #[.int .i64 0, .bool false, .int .i64 0] 52) = W0 ∧ W0.heap[w.heap.size]? = some (.cells #[.int .i64 0, .bool false, .int .i64 0] 52 (0, 0)) ∧ Frm (fun k => k = tb) w W0 ∧ TurnC G W0 tb q (.func (.func f) #[] b) p true := by
    refine ⟨_, rfl, ?_, (frm_set w tb (q + 2) (.bool true)).alloc _, ?_⟩
    · have := heap_new (w.setCell ⟨tb, q + 2, none⟩ (.bool true)) (.cells #[.int .i64 0, .bool false, .int .i64 0] 52)
      rwa [show (w.setCell ⟨tb, q + 2, none⟩ (.bool true)).heap.size = w.heap.size by simp [World.setCell]] at this
    · exact TurnC.frm (⟨(World.cell?_setCell_other _ ⟨tb, q + 2, none⟩ ⟨tb, q, none⟩ _ (by simp)).trans h.c0, (World.cell?_setCell_other _ ⟨tb, q + 2, none⟩ ⟨tb, q + 1, none⟩ _ (by simp)).trans h.c1, World.cell?_setCell_same _ _ _ h.c2, fun i => by simp [h.fz i], fun i hi => (World.cell?_setCell_other _ ⟨tb, q + 2, none⟩ ⟨tb, i, none⟩ _ (by simp <;> omega)).trans (h.rest i hi)⟩ : TurnC G (w.setCell ⟨tb, q + 2, none⟩ (.bool true)) tb q (.func (.func f) #[] b) p true) ((Old.refl _).alloc _) (fun h => h)
  have kx := hid x0
  clear x0
  have lz := (Array.getElem?_eq_some_iff.1 n0).1
  have kL := hid (hL W0 f0 t0 lz)
  have klz := hid lz
  clear lz
  have kf := hid f0
  have kt := hid t0
  have kn := hid n0
  have c00 : (w.setCell ⟨tb, q + 2, none⟩ (.bool true)).cell? ⟨tb, q, none⟩ = some (.func (.func f) #[] b) := (World.cell?_setCell_other _ ⟨tb, q + 2, none⟩ ⟨tb, q, none⟩ _ (by simp)).trans h.c0
  have hS' := hid hS
  clear hL h f0 t0 n0 hS
  go_enter Try.func45, Try.ntmps45
  go_wp2_with fail
  rw [kx.out]
  clear kx
  refine kL.out.mono ?_
  rintro e W1 ⟨rfl, fr, t⟩
  have hz := (Array.getElem?_eq_some_iff.1 kn.out).1
  have hm := (fr.block w.heap.size hz (fun h => by have := hS'.out _ h; omega)).trans kn.out
  obtain ⟨s, hs⟩ : ∃ s, w.heap.size = s := ⟨_, rfl⟩
  rw [hs] at hm ⊢
  have km := hid hm
  have kfr := hid fr
  have ktt := hid t
  clear hm fr t kL kn hz
  obtain ⟨d0, d1, d2, dz⟩ := three_cells km.out
  have z00 := dz 0
  have z01 := dz 1
  have z02 := dz 2
  unfold ans
  clear dz
  go_wp2
  obtain ⟨g1, g2⟩ := set_three (a' := .int .i64 v) (b' := .bool y) (c' := .int .i64 0) km.out
  obtain ⟨W3, e3⟩ : ∃ W3, ((W1.setCell ⟨s, 0, none⟩ (.int .i64 v)).setCell ⟨s, 1, none⟩ (.bool y)).setCell ⟨s, 2, none⟩ (.int .i64 0) = W3 := ⟨_, rfl⟩
  rw [e3] at g1 g2 ⊢
  obtain ⟨p0, p1, p2, _⟩ := three_cells g1
  refine bodyPost_ret (v := .tuple #[ans v y, .bool d]) ?_ rfl ⟨rfl, W0, W1, kf.out, kt.out, kfr.out, ktt.out, by have := klz.out; omega, Frm.mono g2 (fun k _ e => by omega)⟩
  simp [results, Try.f45, go_sem, p0, p1, p2, ans]


theorem e83 : ∀ args w, (callFunc 83 args).run Try.prog w = .ok (.enter 83 args) w := enters_of Try.func83 (by kernel_rfl) rfl
theorem e82 : ∀ args w, (callFunc 82 args).run Try.prog w = .ok (.enter 82 args) w := enters_of Try.func82 (by kernel_rfl) rfl
theorem e71 : ∀ args w, (callFunc 71 args).run Try.prog w = .ok (.enter 71 args) w := enters_of Try.func71 (by kernel_rfl) rfl
theorem e64 : ∀ args w, (callFunc 64 args).run Try.prog w = .ok (.enter 64 args) w := enters_of Try.func64 (by kernel_rfl) rfl

def once1 (bf : Nat) : Value := .func (.func 83) #[] #[.pointer (some ⟨bf, 0, none⟩)]

/-- The step of an op that is done at once, by a function f in a box of its own. -/
theorem step_once (ub q bf f : Nat) (b : Array Value) (pv : Value) (v : Int) (y : Bool) (w : World) (hT : TurnC G w ub q (once1 bf) pv false) (hf : w.cell? ⟨bf, 0, none⟩ = some (.func (.func f) #[] b)) (hne : bf ≠ ub) (eg : ∀ args w, (callFunc f args).run Try.prog w = .ok (.enter f args) w) (S : Nat → Prop) (hS : ∀ k, S k → k < w.heap.size) (hu : ¬ S ub) (T : Nat → World → Prop)
    (hD : ∀ W, Frm (fun k => k = ub) w W → w.heap.size < W.heap.size → Calls Try.prog f b W fun e W' => e = .returned (ans v y) ∧ Frm S W W' ∧ T W.heap.size W') :
    Calls Try.prog 45 #[.pointer (some ⟨ub, q, none⟩)] w fun e w' => e = .returned (.tuple #[ans v y, .bool true]) ∧ Frm (fun k => k = ub ∨ S k) w w' ∧ TurnC G w' ub q (once1 bf) pv true ∧ ∃ m W', w.heap.size < m ∧ T m W' ∧ Frm (fun k => w.heap.size ≤ k ∧ k < m) W' w' := by
  have lub := hT.lt
  refine (step_look2 ub q _ _ _ v y true w hT S hS (fun W' => ∃ m W2, w.heap.size < m ∧ T m W2 ∧ Frm (fun k => w.heap.size ≤ k ∧ k < m) W2 W') e83 ?_).mono ?_
  · intro W fW _ lW
    have zW := fW.size
    refine (at_once_do2 bf f b v y W S (fun k hk => by have := hS k hk; omega) (fun W2 => ∃ m, W.heap.size < m ∧ T m W2) eg (frm_cell fW hf hne) ?_).mono ?_
    · intro W2 o2 l2
      refine (hD W2 (Frm.trans fW o2 (fun _ _ h => h.elim)) (by omega)).mono ?_
      rintro e W3 ⟨rfl, f3, t3⟩
      exact ⟨rfl, f3, _, l2, t3⟩
    · rintro e W' ⟨rfl, f2, W2, ⟨m, lm, t2⟩, f3⟩
      exact ⟨rfl, f2, m, W2, by omega, t2, Frm.mono f3 (fun k _ hk => by omega)⟩
  · rintro e w' ⟨rfl, W, W', f1, t1, f2, ⟨m, W2, lm, t2, f4⟩, lW, f3⟩
    refine ⟨rfl, Frm.trans (Frm.trans (Frm.mono f1 (fun _ _ h => Or.inl h)) f2 (fun _ _ h => Or.inr h)) f3 (fun k hk hl => by omega), (t1.frm f2 hu).frm f3 (by omega), m, W2, lm, t2, Frm.trans f4 f3 (fun k _ hk => by omega)⟩

/-- The boxes of an adding. -/
structure Box1 (w : World) (cm wk : Nat) (x : Int) (bf b1 b2 b3 : Nat) : Prop where
  cf : w.cell? ⟨bf, 0, none⟩ = some (.func (.func 82) #[] #[.pointer (some ⟨b1, 0, none⟩), .pointer (some ⟨b2, 0, none⟩), .pointer (some ⟨b3, 0, none⟩)])
  c1 : w.cell? ⟨b1, 0, none⟩ = some (.pointer (some ⟨cm, 0, none⟩))
  c2 : w.cell? ⟨b2, 0, none⟩ = some (.int .i64 wk)
  c3 : w.cell? ⟨b3, 0, none⟩ = some (.int .i64 x)

theorem step1_any (ub q : Nat) (τ : Nat → Nat) (B : Names) (p : Option Addr) (s : St) (t wk : Nat) (ht : 8 < t) (x : Int) (bf b1 b2 b3 : Nat) (w : World) (h : BenchS w τ B p s) (b : Box1 w B.cm wk x bf b1 b2 b3) (tg : τ bf = t ∧ τ b1 = t ∧ τ b2 = t ∧ τ b3 = t) (hu : τ ub = 8) (hT : TurnC G w ub q (once1 bf) .nilFunc false) (hL : s.L.length ≤ 64) (hk : wk < s.L.length) :
    Calls Try.prog 45 #[.pointer (some ⟨ub, q, none⟩)] w fun e w' => e = .returned (.tuple #[ans (IntKind.i64.wrap (s.L[wk]! + x)) true, .bool true]) ∧ Frm (StepF τ t 1) w w' ∧ TurnC G w' ub q (once1 bf) .nilFunc true ∧ ∃ τ', (∀ k, k < w.heap.size → τ' k = τ k) ∧ (∀ k, w.heap.size ≤ k → τ' k = τ k ∨ τ' k = 1 ∧ k < w'.heap.size) ∧ BenchS w' τ' B p { s with L := s.L.set wk (IntKind.i64.wrap (s.L[wk]! + x)) } := by
  obtain ⟨lb, sb, hx, u1, u2⟩ := h.cnt
  obtain ⟨c, hcs⟩ := hx.cnt
  obtain ⟨tr, hr⟩ := hx.row
  have ut := h.t1
  have lcn : B.cn < w.heap.size := (Array.getElem?_eq_some_iff.1 hcs.num.choose_spec).1
  have lcm : B.cm < w.heap.size := World.block_lt_of_cell? w ⟨B.cm, 0, none⟩ hcs.ptr
  have n1 : ∀ k, τ k = t → k ≠ ub := fun k hk e => by rw [e] at hk; omega
  have n2 : ∀ k, τ k = 1 → k ≠ ub := fun k hk e => by rw [e] at hk; omega
  refine (step_once ub q bf _ _ .nilFunc (IntKind.i64.wrap (s.L[wk]! + x)) true w hT b.cf (n1 _ tg.1) e82 (fun k => k = B.cn) (fun k hk => by omega) (fun e => n2 _ ut.2 e.symm) (fun m W' => ∃ lb' sb', m ≤ lb' ∧ m ≤ sb' ∧ CountX W' B.cm B.cn lb' sb' (s.L.set wk (IntKind.i64.wrap (s.L[wk]! + x)))) ?_).mono ?_
  · intro W fW _
    refine (adding1 b1 b2 b3 B.cm B.cn lb sb wk x s.L W (hx.frm fW (n2 _ ut.1) (n2 _ ut.2) (n2 _ u1) (n2 _ u2)) (frm_cell fW b.c1 (n1 _ tg.2.1)) (frm_cell fW b.c2 (n1 _ tg.2.2.1)) (frm_cell fW b.c3 (n1 _ tg.2.2.2)) hL hk).mono ?_
    rintro e W' ⟨rfl, f, lb', sb', l1, l2, hX⟩
    exact ⟨rfl, f, lb', sb', l1, l2, hX⟩
  · rintro e w' ⟨rfl, f, tT, m, W', lm, ⟨lb', sb', l1, l2, hX⟩, f3⟩
    have fB : Frm (StepF τ t 1) w w' := Frm.mono f (fun k _ hk => hk.elim (fun hk => Or.inl (by rw [hk]; exact hu)) (fun hk => Or.inr (Or.inr (by rw [hk]; exact ut.2))))
    have hX' := hX.frm f3 (by omega) (by omega) (by omega) (by omega)
    have llb : lb' < w'.heap.size := (Array.getElem?_eq_some_iff.1 (show w'.heap[lb']? = _ from hX'.cnt.choose_spec.list)).1
    have lsb : sb' < w'.heap.size := (Array.getElem?_eq_some_iff.1 hX'.row.choose_spec).1
    refine ⟨rfl, fB, tT, fun k => if k = lb' ∨ k = sb' then 1 else τ k, fun k hk => if_neg (by omega), fun k hk => ?_, ?_⟩
    · by_cases e : k = lb' ∨ k = sb'
      · exact Or.inr ⟨if_pos e, by omega⟩
      · exact Or.inl (if_neg e)
    · have hre : BenchS w (fun k => if k = lb' ∨ k = sb' then 1 else τ k) B p s := h.retag (fun k hk => if_neg (by omega))
      refine hre.upd1 fB (fun k hk hl => ?_) ⟨lb', sb', hX', if_pos (Or.inl rfl), if_pos (Or.inr rfl)⟩
      have e1 : (if k = lb' ∨ k = sb' then 1 else τ k) = τ k := if_neg (by omega)
      rw [e1]
      unfold StepF at hk
      omega
end Go.Proofs.Ytpnnfkgnkalhlaa
