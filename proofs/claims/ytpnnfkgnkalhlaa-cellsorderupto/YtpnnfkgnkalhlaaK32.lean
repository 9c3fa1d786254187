/- A step of an op that is under way. -/
import Derived.Test.YtpnnfkgnkalhlaaK31
namespace Go.Proofs.Ytpnnfkgnkalhlaa
open Go.RowKit Go.Lib

/-- A turn at ⟨tb, to⟩. -/
structure TurnC (G : Nat → Option Value) (w : World) (tb q : Nat) (l p : Value) (y : Bool) : Prop where
  c0 : w.cell? ⟨tb, q, none⟩ = some l
  c1 : w.cell? ⟨tb, q + 1, none⟩ = some p
  c2 : w.cell? ⟨tb, q + 2, none⟩ = some (.bool y)
  fz : ∀ i, w.frozen? ⟨tb, i, none⟩ = false
  rest : ∀ i, (i < q ∨ q + 3 ≤ i) → w.cell? ⟨tb, i, none⟩ = G i

variable {G : Nat → Option Value}
theorem TurnC.lt {w : World} {tb q : Nat} {l p : Value} {y : Bool} (h : TurnC G w tb q l p y) : tb < w.heap.size := World.block_lt_of_cell? w ⟨tb, q, none⟩ h.c0
theorem TurnC.frm {w w' : World} {S : Nat → Prop} {tb q : Nat} {l p : Value} {y : Bool} (h : TurnC G w tb q l p y) (f : Frm S w w') (hS : ¬ S tb) : TurnC G w' tb q l p y :=
  ⟨frm_cell f h.c0 hS, frm_cell f h.c1 hS, frm_cell f h.c2 hS, fun i => by
    rw [← h.fz i]
    simp only [World.frozen?, f.block tb h.lt hS], fun i hi => (World.cell?_of_block (f.block tb h.lt hS)).trans (h.rest i hi)⟩


set_option maxRecDepth 100000 in
set_option maxHeartbeats 4000000 in
/-- The first step: a look. -/
theorem step_look (tb q f : Nat) (b : Array Value) (p : Value) (v : Int) (y d : Bool) (w : World) (h : TurnC G w tb q (.func (.func f) #[] b) p false) (S : Nat → Prop) (hS : ∀ k, S k → k < w.heap.size) (T : World → Prop)
    (eg : ∀ args w, (callFunc f args).run Try.prog w = .ok (.enter f args) w)
    (hL : ∀ W, Frm (fun k => k = tb) w W → TurnC G W tb q (.func (.func f) #[] b) p true → Calls Try.prog f b W fun e W' => e = .returned (.tuple #[ans v y, .bool d]) ∧ Frm S W W' ∧ T W') :
    Calls Try.prog 45 #[.pointer (some ⟨tb, q, none⟩)] w fun e w' => e = .returned (.tuple #[ans v y, .bool d]) ∧ ∃ W W', Frm (fun k => k = tb) w W ∧ TurnC G W tb q (.func (.func f) #[] b) p true ∧ Frm S W W' ∧ T W' ∧ Frm (fun k => w.heap.size ≤ k) W' w' := by
  have l := h.lt
  have c0 := h.c0
  have c2 := h.c2
  have z2 := h.fz (q + 2)
  obtain ⟨W0, x0, n0, f0, t0⟩ : ∃ W0, (w.setCell ⟨tb, q + 2, none⟩ (.bool true)).alloc (.cells #[.int .i64 0, .bool false, .int .i64 0] 52) = W0 ∧ W0.heap[w.heap.size]? = some (.cells #[.int .i64 0, .bool false, .int .i64 0] 52 (0, 0)) ∧ Frm (fun k => k = tb) w W0 ∧ TurnC G W0 tb q (.func (.func f) #[] b) p true := by
    refine ⟨_, rfl, ?_, (frm_set w tb (q + 2) (.bool true)).alloc _, ?_⟩
    · have := heap_new (w.setCell ⟨tb, q + 2, none⟩ (.bool true)) (.cells #[.int .i64 0, .bool false, .int .i64 0] 52)
      rwa [show (w.setCell ⟨tb, q + 2, none⟩ (.bool true)).heap.size = w.heap.size by simp [World.setCell]] at this
    · exact TurnC.frm (⟨(World.cell?_setCell_other _ ⟨tb, q + 2, none⟩ ⟨tb, q, none⟩ _ (by simp)).trans h.c0, (World.cell?_setCell_other _ ⟨tb, q + 2, none⟩ ⟨tb, q + 1, none⟩ _ (by simp)).trans h.c1, World.cell?_setCell_same _ _ _ h.c2, fun i => by simp [h.fz i], fun i hi => (World.cell?_setCell_other _ ⟨tb, q + 2, none⟩ ⟨tb, i, none⟩ _ (by simp <;> omega)).trans (h.rest i hi)⟩ : TurnC G (w.setCell ⟨tb, q + 2, none⟩ (.bool true)) tb q (.func (.func f) #[] b) p true) ((Old.refl _).alloc _) (fun h => h)
  have kx := hid x0
  clear x0
  have kL := hid (hL W0 f0 t0)
  have kf := hid f0
  have kt := hid t0
  have kn := hid n0
  have c00 : (w.setCell ⟨tb, q + 2, none⟩ (.bool true)).cell? ⟨tb, q, none⟩ = some (.func (.func f) #[] b) := (World.cell?_setCell_other _ ⟨tb, q + 2, none⟩ ⟨tb, q, none⟩ _ (by simp)).trans h.c0
  have hS' := hid hS
  clear hL h f0 t0 n0 hS
  go_enter Try.func45, Try.ntmps45
  go_wp2_with fail
  rw [kx.out]
  clear kx
  refine kL.out.mono ?_
  rintro e W1 ⟨rfl, fr, t⟩
  have hz := (Array.getElem?_eq_some_iff.1 kn.out).1
  have hm := (fr.block w.heap.size hz (fun h => by have := hS'.out _ h; omega)).trans kn.out
  obtain ⟨s, hs⟩ : ∃ s, w.heap.size = s := ⟨_, rfl⟩
  rw [hs] at hm ⊢
  have km := hid hm
  have kfr := hid fr
  have ktt := hid t
  clear hm fr t kL kn hz
  obtain ⟨d0, d1, d2, dz⟩ := three_cells km.out
  have z00 := dz 0
  have z01 := dz 1
  have z02 := dz 2
  unfold ans
  clear dz
  go_wp2
  obtain ⟨g1, g2⟩ := set_three (a' := .int .i64 v) (b' := .bool y) (c' := .int .i64 0) km.out
  obtain ⟨W3, e3⟩ : ∃ W3, ((W1.setCell ⟨s, 0, none⟩ (.int .i64 v)).setCell ⟨s, 1, none⟩ (.bool y)).setCell ⟨s, 2, none⟩ (.int .i64 0) = W3 := ⟨_, rfl⟩
  rw [e3] at g1 g2 ⊢
  obtain ⟨p0, p1, p2, _⟩ := three_cells g1
  refine bodyPost_ret (v := .tuple #[ans v y, .bool d]) ?_ rfl ⟨rfl, W0, W1, kf.out, kt.out, kfr.out, ktt.out, Frm.mono g2 (fun k _ e => by omega)⟩
  simp [results, Try.f45, go_sem, p0, p1, p2, ans]

set_option maxRecDepth 100000 in
set_option maxHeartbeats 4000000 in
/-- A step that puts. -/
theorem step_put (tb q f : Nat) (b : Array Value) (l' : Value) (v : Int) (y : Bool) (w : World) (h : TurnC G w tb q l' (.func (.func f) #[] b) true) (S : Nat → Prop) (hS : ∀ k, S k → k < w.heap.size) (T : World → Prop)
    (eg : ∀ args w, (callFunc f args).run Try.prog w = .ok (.enter f args) w)
    (hP : ∀ W, Old w W → Calls Try.prog f b W fun e W' => e = .returned (.tuple #[ans v y, .bool true]) ∧ Frm S W W' ∧ T W') :
    Calls Try.prog 45 #[.pointer (some ⟨tb, q, none⟩)] w fun e w' => e = .returned (.tuple #[ans v y, .bool true]) ∧ ∃ W W', Old w W ∧ Frm S W W' ∧ T W' ∧ Frm (fun k => w.heap.size ≤ k) W' w' := by
  have l := h.lt
  have c1 := h.c1
  have c2 := h.c2
  have o0 : Old w (w.alloc (.cells #[.int .i64 0, .bool false, .int .i64 0] 52)) := (Old.refl w).alloc _
  have n0 := heap_new w (.cells #[.int .i64 0, .bool false, .int .i64 0] 52)
  obtain ⟨W0, x0⟩ : ∃ W0, w.alloc (.cells #[.int .i64 0, .bool false, .int .i64 0] 52) = W0 := ⟨_, rfl⟩
  rw [x0] at o0 n0
  have kx := hid x0
  clear x0
  have kP := hid (hP W0 o0)
  have ko := hid o0
  have kn := hid n0
  have hS' := hid hS
  clear hP h o0 n0 hS
  go_enter Try.func45, Try.ntmps45
  go_wp2_with fail
  rw [kx.out]
  clear kx
  refine kP.out.mono ?_
  rintro e W1 ⟨rfl, fr, t⟩
  have hz := (Array.getElem?_eq_some_iff.1 kn.out).1
  have hm := (fr.block w.heap.size hz (fun h => by have := hS'.out _ h; omega)).trans kn.out
  have sz := fr.size
  obtain ⟨s, hs⟩ : ∃ s, w.heap.size = s := ⟨_, rfl⟩
  rw [hs] at hm hz ⊢
  have km := hid hm
  have kfr := hid fr
  have ktt := hid t
  have ls : s < W1.heap.size := by omega
  clear hm fr t kP kn
  obtain ⟨d0, d1, d2, dz⟩ := three_cells km.out
  have z00 := dz 0
  have z01 := dz 1
  have z02 := dz 2
  unfold ans
  clear dz
  go_wp2
  obtain ⟨g1, g2⟩ := set_three (a' := .int .i64 v) (b' := .bool y) (c' := .int .i64 0) km.out
  obtain ⟨W3, e3⟩ : ∃ W3, ((W1.setCell ⟨s, 0, none⟩ (.int .i64 v)).setCell ⟨s, 1, none⟩ (.bool y)).setCell ⟨s, 2, none⟩ (.int .i64 0) = W3 := ⟨_, rfl⟩
  rw [e3] at g1 g2 ⊢
  obtain ⟨p0, p1, p2, _⟩ := three_cells g1
  have oX : Frm (fun k => s ≤ k) W1 (W3.alloc (.cells #[.int .i64 v, .bool y, .int .i64 0] 52)) := (Frm.mono g2 (fun k _ e => by omega)).alloc _
  have q0 := ((Old.refl W3).alloc (.cells #[.int .i64 v, .bool y, .int .i64 0] 52)).cell p0
  have q1 := ((Old.refl W3).alloc (.cells #[.int .i64 v, .bool y, .int .i64 0] 52)).cell p1
  have q2 := ((Old.refl W3).alloc (.cells #[.int .i64 v, .bool y, .int .i64 0] 52)).cell p2
  refine bodyPost_ret (v := .tuple #[ans v y, .bool true]) ?_ rfl ⟨rfl, W0, W1, ko.out, kfr.out, ktt.out, Frm.mono oX (fun k _ h => by omega)⟩
  simp [results, Try.f45, go_sem, q0, q1, q2, ans]

set_option maxRecDepth 100000 in
set_option maxHeartbeats 4000000 in
/-- A step whose put fails: it looks. -/
theorem step_miss (tb q f g : Nat) (b b' : Array Value) (v0 v : Int) (y0 y d : Bool) (w : World) (h : TurnC G w tb q (.func (.func g) #[] b') (.func (.func f) #[] b) true) (S : Nat → Prop) (hS : ∀ k, S k → k < w.heap.size) (T : World → Prop)
    (eg : ∀ args w, (callFunc f args).run Try.prog w = .ok (.enter f args) w)
    (eh : ∀ args w, (callFunc g args).run Try.prog w = .ok (.enter g args) w)
    (hP : ∀ W, Old w W → Calls Try.prog f b W fun e W' => e = .returned (.tuple #[ans v0 y0, .bool false]) ∧ Old W W')
    (hL : ∀ W, Frm (fun k => k = tb) w W → TurnC G W tb q (.func (.func g) #[] b') (.func (.func f) #[] b) true → Calls Try.prog g b' W fun e W' => e = .returned (.tuple #[ans v y, .bool d]) ∧ Frm S W W' ∧ T W') :
    Calls Try.prog 45 #[.pointer (some ⟨tb, q, none⟩)] w fun e w' => e = .returned (.tuple #[ans v y, .bool d]) ∧ ∃ W W', Frm (fun k => k = tb) w W ∧ TurnC G W tb q (.func (.func g) #[] b') (.func (.func f) #[] b) true ∧ Frm S W W' ∧ T W' ∧ Frm (fun k => w.heap.size ≤ k) W' w' := by
  have l := h.lt
  have c1 := h.c1
  have c2 := h.c2
  have o0 : Old w (w.alloc (.cells #[.int .i64 0, .bool false, .int .i64 0] 52)) := (Old.refl w).alloc _
  have n0 := heap_new w (.cells #[.int .i64 0, .bool false, .int .i64 0] 52)
  obtain ⟨W0, x0⟩ : ∃ W0, w.alloc (.cells #[.int .i64 0, .bool false, .int .i64 0] 52) = W0 := ⟨_, rfl⟩
  rw [x0] at o0 n0
  have kx := hid x0
  clear x0
  have kP := hid (hP W0 o0)
  have ko := hid o0
  have kn := hid n0
  have hS' := hid hS
  have kL := hid hL
  have kh := hid h
  clear hP h o0 n0 hS hL
  go_enter Try.func45, Try.ntmps45
  go_wp2_with fail
  rw [kx.out]
  clear kx
  refine kP.out.mono ?_
  rintro e W1 ⟨rfl, fr⟩
  have hz := (Array.getElem?_eq_some_iff.1 kn.out).1
  have hm := (fr.block w.heap.size hz (fun h => h)).trans kn.out
  have o1 := Old.trans ko.out fr
  have h1 := kh.out.frm o1 (fun h => h)
  have l1 := h1.lt
  have sz := fr.size
  have d2 := h1.c2
  have z2 := h1.fz (q + 2)
  have f2 := frm_set W1 tb (q + 2) (.bool true)
  have h2 : TurnC G (W1.setCell ⟨tb, q + 2, none⟩ (.bool true)) tb q (.func (.func g) #[] b') (.func (.func f) #[] b) true := ⟨(World.cell?_setCell_other _ ⟨tb, q + 2, none⟩ ⟨tb, q, none⟩ _ (by simp)).trans h1.c0, (World.cell?_setCell_other _ ⟨tb, q + 2, none⟩ ⟨tb, q + 1, none⟩ _ (by simp)).trans h1.c1, World.cell?_setCell_same _ _ _ h1.c2, fun i => by simp [h1.fz i], fun i hi => (World.cell?_setCell_other _ ⟨tb, q + 2, none⟩ ⟨tb, i, none⟩ _ (by simp <;> omega)).trans (h1.rest i hi)⟩
  have d0 := h2.c0
  have oX : Old (W1.setCell ⟨tb, q + 2, none⟩ (.bool true)) ((W1.setCell ⟨tb, q + 2, none⟩ (.bool true)).alloc (.cells #[.int .i64 v0, .bool y0, .int .i64 0] 52)) := (Old.refl _).alloc _
  have f3 : Frm (fun k => k = tb) w ((W1.setCell ⟨tb, q + 2, none⟩ (.bool true)).alloc (.cells #[.int .i64 v0, .bool y0, .int .i64 0] 52)) := Frm.trans (Frm.trans (Frm.mono o1 (fun _ _ h => h.elim)) f2 (fun _ _ h => h)) oX (fun _ _ h => h.elim)
  have m3 : ((W1.setCell ⟨tb, q + 2, none⟩ (.bool true)).alloc (.cells #[.int .i64 v0, .bool y0, .int .i64 0] 52)).heap[w.heap.size]? = some (.cells #[.int .i64 0, .bool false, .int .i64 0] 52 (0, 0)) := (oX.block w.heap.size (by simp [World.setCell]; omega) (fun h => h)).trans ((f2.block w.heap.size (by omega) (by omega)).trans hm)
  have h3 := h2.frm oX (fun h => h)
  obtain ⟨W2, x2⟩ : ∃ W2, (W1.setCell ⟨tb, q + 2, none⟩ (.bool true)).alloc (.cells #[.int .i64 v0, .bool y0, .int .i64 0] 52) = W2 := ⟨_, rfl⟩
  rw [x2] at f3 m3 h3
  have kx := hid x2
  have kf := hid f3
  have kt := hid h3
  have kn := hid m3
  have kLL := hid (kL.out W2 f3 h3)
  clear x2 f3 h3 m3 oX h2 f2 h1 o1 fr kL kh kP ko hm
  unfold ans
  go_wp2_with fail
  rw [kx.out]
  clear kx
  refine kLL.out.mono ?_
  rintro e W1 ⟨rfl, fr, t⟩
  have hz := (Array.getElem?_eq_some_iff.1 kn.out).1
  have hm := (fr.block w.heap.size hz (fun h => by have := hS'.out _ h; omega)).trans kn.out
  obtain ⟨s, hs⟩ : ∃ s, w.heap.size = s := ⟨_, rfl⟩
  rw [hs] at hm ⊢
  have km := hid hm
  have kfr := hid fr
  have ktt := hid t
  clear hm fr t kLL kn hz d2 z2 d0 c1 c2 l1 sz
  obtain ⟨d0, d1, d2, dz⟩ := three_cells km.out
  have z00 := dz 0
  have z01 := dz 1
  have z02 := dz 2
  unfold ans
  clear dz
  go_wp2
  obtain ⟨g1, g2⟩ := set_three (a' := .int .i64 v) (b' := .bool y) (c' := .int .i64 0) km.out
  obtain ⟨W3, e3⟩ : ∃ W3, ((W1.setCell ⟨s, 0, none⟩ (.int .i64 v)).setCell ⟨s, 1, none⟩ (.bool y)).setCell ⟨s, 2, none⟩ (.int .i64 0) = W3 := ⟨_, rfl⟩
  rw [e3] at g1 g2 ⊢
  obtain ⟨p0, p1, p2, _⟩ := three_cells g1
  refine bodyPost_ret (v := .tuple #[ans v y, .bool d]) ?_ rfl ⟨rfl, W2, W1, kf.out, kt.out, kfr.out, ktt.out, Frm.mono g2 (fun k _ e => by omega)⟩
  simp [results, Try.f45, go_sem, p0, p1, p2, ans]
end Go.Proofs.Ytpnnfkgnkalhlaa
