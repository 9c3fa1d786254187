/- Ops that are done at once; a step of an op that is under way. -/
import Derived.Test.YtpnnfkgnkalhlaaK30
import Derived.Laws.EntriesVeiled
namespace Go.Proofs.Ytpnnfkgnkalhlaa
open Go.RowKit Go.Lib

/-- A count at mb whose stripes are L: its list at lb, their cells at sb. -/
structure CountX (w : World) (mb nb lb sb : Nat) (L : List Int) : Prop where
  cnt : ∃ c, CountS w mb nb lb (some ⟨sb, 0, none⟩) L.length c
  row : ∃ t, w.heap[sb]? = some (.cells (L.map (Value.int .i64)).toArray t (0, 0))
  ne : sb ≠ nb

theorem CountX.v {w : World} {mb nb lb sb : Nat} {L : List Int} (h : CountX w mb nb lb sb L) : CountV w mb nb L := by
  obtain ⟨c, hc⟩ := h.cnt
  exact ⟨lb, sb, c, hc, h.row, h.ne⟩

theorem CountX.frm {w w' : World} {S : Nat → Prop} {mb nb lb sb : Nat} {L : List Int} (h : CountX w mb nb lb sb L) (f : Frm S w w') (h1 : ¬ S mb) (h2 : ¬ S nb) (h3 : ¬ S lb) (h4 : ¬ S sb) : CountX w' mb nb lb sb L := by
  obtain ⟨c, hc⟩ := h.cnt
  obtain ⟨t, ht⟩ := h.row
  exact ⟨⟨c, hc.frm f h1 h2 h3⟩, ⟨t, (f.block sb (Array.getElem?_eq_some_iff.1 ht).1 h4).trans ht⟩, h.ne⟩

set_option maxRecDepth 100000 in
set_option maxHeartbeats 4000000 in
theorem adding1 (b1 b2 b3 mb nb lb sb k : Nat) (x : Int) (L : List Int) (w : World) (h : CountX w mb nb lb sb L) (h1 : w.cell? ⟨b1, 0, none⟩ = some (.pointer (some ⟨mb, 0, none⟩))) (h2 : w.cell? ⟨b2, 0, none⟩ = some (.int .i64 k)) (h3 : w.cell? ⟨b3, 0, none⟩ = some (.int .i64 x)) (hL : L.length ≤ 64) (hk : k < L.length) :
    Calls Try.prog 82 #[.pointer (some ⟨b1, 0, none⟩), .pointer (some ⟨b2, 0, none⟩), .pointer (some ⟨b3, 0, none⟩)] w fun e w' => e = .returned (ans (IntKind.i64.wrap (L[k]! + x)) true) ∧ Frm (fun k => k = nb) w w' ∧ ∃ lb' sb', w.heap.size ≤ lb' ∧ w.heap.size ≤ sb' ∧ CountX w' mb nb lb' sb' (L.set k (IntKind.i64.wrap (L[k]! + x))) := by
  obtain ⟨m, hm⟩ : ∃ m, IntKind.i64.wrap (L[k]! + x) = m := ⟨_, rfl⟩
  rw [hm]
  have km := hid hm
  clear hm
  obtain ⟨c, hC⟩ := h.cnt
  obtain ⟨ts, hS⟩ := h.row
  have hne := h.ne
  obtain ⟨n, hn⟩ : ∃ n, L.length = n := ⟨_, rfl⟩
  rw [hn] at hC hL hk
  have oA : Old w (w.alloc (.cells #[.int .i64 0, .bool false, .int .i64 0] 52)) := (Old.refl w).alloc _
  have nA := heap_new w (.cells #[.int .i64 0, .bool false, .int .i64 0] 52)
  have zA : (w.alloc (.cells #[.int .i64 0, .bool false, .int .i64 0] 52)).heap.size = w.heap.size + 1 := by simp only [World.alloc, Array.size_push]
  have x1 := oA.cell h1
  have x2 := oA.cell h2
  have x3 := oA.cell h3
  have hC' := hC.frm oA (fun h => h) (fun h => h) (fun h => h)
  have hS' := (oA.block sb (Array.getElem?_eq_some_iff.1 hS).1 (fun h => h)).trans hS
  have lk : nb < w.heap.size := (Array.getElem?_eq_some_iff.1 hC.num.choose_spec).1
  have lm : mb < w.heap.size := World.block_lt_of_cell? w ⟨mb, 0, none⟩ hC.ptr
  clear h hC hS
  obtain ⟨w2, e2⟩ : ∃ w2, w.alloc (.cells #[.int .i64 0, .bool false, .int .i64 0] 52) = w2 := ⟨_, rfl⟩
  rw [e2] at oA nA zA x1 x2 x3 hC' hS'
  have kR := hid (count_relay mb nb lb _ n c k x w2 hC' hL)
  have kC := hid hC'
  have kS := hid hS'
  have kA := hid oA
  have kn := hid nA
  have kz := hid zA
  clear hC' hS' oA nA zA
  go_enter Try.func82, Try.ntmps82
  go_wp2_with fail
  try rw [e2]
  clear e2
  refine kR.out.mono ?_
  rintro e w3 ⟨rfl, o3, ⟨t1, a1⟩, ⟨t2, a2⟩, ⟨t3, a3⟩, a4, a5, a6, a7⟩
  clear kR
  have lls : ∀ (b : Nat) (obj : Obj), w2.heap[b]? = some obj → b < w2.heap.size := fun b obj h => (Array.getElem?_eq_some_iff.1 h).1
  have l1 := World.block_lt_of_cell? w2 _ kC.out.ptr
  obtain ⟨tn, hnn⟩ := kC.out.num
  have l2 := lls _ _ hnn
  have l3 := lls _ _ kC.out.list
  have l4 := lls _ _ kS.out
  have c1 := kC.out.ne
  have c2 := kC.out.ne2
  simp only at l1
  have hLc : ∀ j v, (L.map (Value.int .i64))[j]? = some v → w3.cell? ⟨sb, j, none⟩ = some v := fun j v hv => o3.cell (cells_of kS.out (by simpa using hv))
  have kX := hid (relay_whole w2.heap.size (w2.heap.size + 3) (w2.heap.size + 5) (w2.heap.size + 1) (w2.heap.size + 2) (w2.heap.size + 4) mb nb lb sb n c k x L (Array.replicate n (.int .i64 0)) w3 a6 a5 (by simp) a4 (kC.out.frm o3 (fun h => h) (fun h => h) (fun h => h)) hLc hn (cell_of a2) hk (cell_of a3) (cell_of a1) (by omega) (by omega) (by omega))
  have ko := hid o3
  have k6 := hid a6
  have k7 := hid a7
  clear o3 a1 a2 a3 a4 a5 a6 a7 hLc lls
  go_wp2_with fail
  refine kX.out.mono ?_
  rintro e w4 ⟨rfl, f4, b4, ⟨t4, b5⟩⟩
  rw [km.out] at b4 ⊢
  have z3 := k7.out
  have z2 := kz.out
  have fz : Frm (fun k => k = nb) w2 w4 := Frm.trans (Frm.mono ko.out (fun _ _ h => h.elim)) f4 (fun k hk h => by omega)
  have hn4 := (fz.block w.heap.size (by omega) (by omega)).trans kn.out
  obtain ⟨g1, g2⟩ := set_three (a' := .int .i64 m) (b' := .bool true) (c' := .int .i64 0) hn4
  obtain ⟨d0, d1, d2, dz⟩ := three_cells hn4
  have z00 := dz 0
  have z01 := dz 1
  have z02 := dz 2
  have hX : CountX w4 mb nb (w2.heap.size + 5) (w2.heap.size + 4) (L.set k m) := by
    refine ⟨⟨n, ?_⟩, ⟨_, b4⟩, by omega⟩
    have hl6 := k6.out
    rw [List.length_set, hn]
    exact ⟨frm_cell fz kC.out.ptr (by simp only; omega), ⟨t4, b5⟩, (f4.block _ (by omega) (by omega)).trans hl6, c1, by omega⟩
  obtain ⟨u, hu⟩ : ∃ u, w2.heap.size = u := ⟨_, rfl⟩
  rw [hu] at hX l1 l2 l3 l4 z3 z2
  have kf := hid fz
  have kV := hid hX
  have kg1 := hid g1
  have kg2 := hid g2
  obtain ⟨s, hs⟩ : ∃ s, w.heap.size = s := ⟨_, rfl⟩
  rw [hs] at kg1 kg2 d0 d1 d2 z00 z01 z02 lk lm z2 ⊢
  have ks := hid hs
  clear fz hX f4 b4 b5 kX g1 g2 dz hn4 hs hu
  unfold ans
  go_wp2
  obtain ⟨w5, e5⟩ : ∃ w5, ((w4.setCell ⟨s, 0, none⟩ (.int .i64 m)).setCell ⟨s, 1, none⟩ (.bool true)).setCell ⟨s, 2, none⟩ (.int .i64 0) = w5 := ⟨_, rfl⟩
  rw [e5] at kg1 kg2 ⊢
  obtain ⟨p0, p1, p2, _⟩ := three_cells kg1.out
  have hs := ks.out
  refine bodyPost_ret (v := ans m true) ?_ rfl ⟨rfl, ?_, u + 5, u + 4, by omega, by omega, ?_⟩
  · simp [results, Try.f82, go_sem, p0, p1, p2, ans]
  · exact Frm.trans (Frm.trans (Frm.mono kA.out (fun _ _ h => h.elim)) kf.out (fun _ _ h => h)) kg2.out (fun k hk h => by omega)
  · exact kV.out.frm kg2.out (by omega) (by omega) (by omega) (by omega)

set_option maxRecDepth 100000 in
theorem count_adding (p : Option Addr) (k x : Int) (w : World) :
    Calls Try.prog 62 #[.pointer p, .int .i64 k, .int .i64 x] w fun e w' => e = .returned (.tuple #[.func (.func 83) #[] #[.pointer (some ⟨w.heap.size + 3, 0, none⟩)], Value.nilFunc]) ∧ Old w w' ∧ (∃ t, w'.heap[w.heap.size]? = some (.cells #[.pointer p] t (0, 0))) ∧ (∃ t, w'.heap[w.heap.size + 1]? = some (.cells #[.int .i64 k] t (0, 0))) ∧ (∃ t, w'.heap[w.heap.size + 2]? = some (.cells #[.int .i64 x] t (0, 0))) ∧ (∃ t, w'.heap[w.heap.size + 3]? = some (.cells #[.func (.func 82) #[] #[.pointer (some ⟨w.heap.size, 0, none⟩), .pointer (some ⟨w.heap.size + 1, 0, none⟩), .pointer (some ⟨w.heap.size + 2, 0, none⟩)]] t (0, 0))) ∧ w'.heap.size = w.heap.size + 4 := by
  have kO := hid (fun b W => at_once (.func (.func 82) #[] b) _ _ _ rfl W)
  go_enter Try.func62, Try.ntmps62
  go_wp2_with fail
  obtain ⟨a, b, d, z3⟩ := three_news w (.cells #[.pointer p] 25) (.cells #[.int .i64 k] 3) (.cells #[.int .i64 x] 2)
  have o3 : Old w (((w.alloc (.cells #[.pointer p] 25)).alloc (.cells #[.int .i64 k] 3)).alloc (.cells #[.int .i64 x] 2)) := (((Old.refl w).alloc _).alloc _).alloc _
  obtain ⟨w3, e3⟩ : ∃ w3, ((w.alloc (.cells #[.pointer p] 25)).alloc (.cells #[.int .i64 k] 3)).alloc (.cells #[.int .i64 x] 2) = w3 := ⟨_, rfl⟩
  rw [e3] at a b d z3 o3 ⊢
  refine (kO.out _ w3).mono ?_
  rintro e w4 ⟨rfl, o4, ⟨t, h4⟩, z4⟩
  rw [z3] at h4 z4 ⊢
  have k1 := hid (Old.trans o3 o4)
  have k2 := hid ((o4.block _ (by omega) (fun h => h)).trans a)
  have k3 := hid ((o4.block _ (by omega) (fun h => h)).trans b)
  have k4 := hid ((o4.block _ (by omega) (fun h => h)).trans d)
  have k5 := hid h4
  have k6 := hid z4
  clear a b d z3 o3 o4 h4 z4 e3
  go_wp2
  refine bodyPost_ret ?_ rfl ⟨rfl, k1.out, ⟨_, k2.out⟩, ⟨_, k3.out⟩, ⟨_, k4.out⟩, ⟨_, k5.out⟩, k6.out⟩
  simp [results, Try.f62, go_sem]

set_option maxRecDepth 100000 in
theorem idle_do (w : World) : Calls Try.prog 64 #[] w fun e w' => e = .returned (ans 0 false) ∧ Old w w' := by
  go_enter Try.func64, Try.ntmps64
  go_wp2
  refine bodyPost_ret (v := ans 0 false) ?_ rfl ⟨rfl, (Old.refl w).alloc _⟩
  simp [results, Try.f64, go_sem, ans]
end Go.Proofs.Ytpnnfkgnkalhlaa

/- A step of an op that is under way. -/
namespace Go.Proofs.Ytpnnfkgnkalhlaa
open Go.RowKit Go.Lib

/-- A turn at ⟨tb, to⟩. -/
structure TurnC (G : Nat → Option Value) (w : World) (tb q : Nat) (l p : Value) (y : Bool) : Prop where
  c0 : w.cell? ⟨tb, q, none⟩ = some l
  c1 : w.cell? ⟨tb, q + 1, none⟩ = some p
  c2 : w.cell? ⟨tb, q + 2, none⟩ = some (.bool y)
  fz : ∀ i, w.frozen? ⟨tb, i, none⟩ = false
  rest : ∀ i, (i < q ∨ q + 3 ≤ i) → w.cell? ⟨tb, i, none⟩ = G i

variable {G : Nat → Option Value}
theorem TurnC.lt {w : World} {tb q : Nat} {l p : Value} {y : Bool} (h : TurnC G w tb q l p y) : tb < w.heap.size := World.block_lt_of_cell? w ⟨tb, q, none⟩ h.c0
theorem TurnC.frm {w w' : World} {S : Nat → Prop} {tb q : Nat} {l p : Value} {y : Bool} (h : TurnC G w tb q l p y) (f : Frm S w w') (hS : ¬ S tb) : TurnC G w' tb q l p y :=
  ⟨frm_cell f h.c0 hS, frm_cell f h.c1 hS, frm_cell f h.c2 hS, fun i => by
    rw [← h.fz i]
    simp only [World.frozen?, f.block tb h.lt hS], fun i hi => (World.cell?_of_block (f.block tb h.lt hS)).trans (h.rest i hi)⟩


set_option maxRecDepth 100000 in
set_option maxHeartbeats 4000000 in
/-- The first step: a look. -/
theorem step_look (tb q f : Nat) (b : Array Value) (p : Value) (v : Int) (y d : Bool) (w : World) (h : TurnC G w tb q (.func (.func f) #[] b) p false) (S : Nat → Prop) (hS : ∀ k, S k → k < w.heap.size) (T : World → Prop)
    (eg : ∀ args w, (callFunc f args).run Try.prog w = .ok (.enter f args) w)
    (hL : ∀ W, Frm (fun k => k = tb) w W → TurnC G W tb q (.func (.func f) #[] b) p true → Calls Try.prog f b W fun e W' => e = .returned (.tuple #[ans v y, .bool d]) ∧ Frm S W W' ∧ T W') :
    Calls Try.prog 45 #[.pointer (some ⟨tb, q, none⟩)] w fun e w' => e = .returned (.tuple #[ans v y, .bool d]) ∧ ∃ W W', Frm (fun k => k = tb) w W ∧ TurnC G W tb q (.func (.func f) #[] b) p true ∧ Frm S W W' ∧ T W' ∧ Frm (fun k => w.heap.size ≤ k) W' w' := by
  have l := h.lt
  have c0 := h.c0
  have c2 := h.c2
  have z2 := h.fz (q + 2)
  obtain ⟨W0, x0, n0, f0, t0⟩ : ∃ W0, (w.setCell ⟨tb, q + 2, none⟩ (.bool true)).alloc (.cells #[.int .i64 0, .bool false, .int .i64 0] 52) = W0 ∧ W0.heap[w.heap.size]? = some (.cells #[.int .i64 0, .bool false, .int .i64 0] 52 (0, 0)) ∧ Frm (fun k => k = tb) w W0 ∧ TurnC G W0 tb q (.func (.func f) #[] b) p true := by
    refine ⟨_, rfl, ?_, (frm_set w tb (q + 2) (.bool true)).alloc _, ?_⟩
    · have := heap_new (w.setCell ⟨tb, q + 2, none⟩ (.bool true)) (.cells #[.int .i64 0, .bool false, .int .i64 0] 52)
      rwa [show (w.setCell ⟨tb, q + 2, none⟩ (.bool true)).heap.size = w.heap.size by simp [World.setCell]] at this
    · exact TurnC.frm (⟨(World.cell?_setCell_other _ ⟨tb, q + 2, none⟩ ⟨tb, q, none⟩ _ (by simp)).trans h.c0, (World.cell?_setCell_other _ ⟨tb, q + 2, none⟩ ⟨tb, q + 1, none⟩ _ (by simp)).trans h.c1, World.cell?_setCell_same _ _ _ h.c2, fun i => by simp [h.fz i], fun i hi => (World.cell?_setCell_other _ ⟨tb, q + 2, none⟩ ⟨tb, i, none⟩ _ (by simp <;> omega)).trans (h.rest i hi)⟩ : TurnC G (w.setCell ⟨tb, q + 2, none⟩ (.bool true)) tb q (.func (.func f) #[] b) p true) ((Old.refl _).alloc _) (fun h => h)
  have kx := hid x0
  clear x0
  have kL := hid (hL W0 f0 t0)
  have kf := hid f0
  have kt := hid t0
  have kn := hid n0
  have c00 : (w.setCell ⟨tb, q + 2, none⟩ (.bool true)).cell? ⟨tb, q, none⟩ = some (.func (.func f) #[] b) := (World.cell?_setCell_other _ ⟨tb, q + 2, none⟩ ⟨tb, q, none⟩ _ (by simp)).trans h.c0
  have hS' := hid hS
  clear hL h f0 t0 n0 hS
  go_enter Try.func45, Try.ntmps45
  go_wp2_with fail
  rw [kx.out]
  clear kx
  refine kL.out.mono ?_
  rintro e W1 ⟨rfl, fr, t⟩
  have hz := (Array.getElem?_eq_some_iff.1 kn.out).1
  have hm := (fr.block w.heap.size hz (fun h => by have := hS'.out _ h; omega)).trans kn.out
  obtain ⟨s, hs⟩ : ∃ s, w.heap.size = s := ⟨_, rfl⟩
  rw [hs] at hm ⊢
  have km := hid hm
  have kfr := hid fr
  have ktt := hid t
  clear hm fr t kL kn hz
  obtain ⟨d0, d1, d2, dz⟩ := three_cells km.out
  have z00 := dz 0
  have z01 := dz 1
  have z02 := dz 2
  unfold ans
  clear dz
  go_wp2
  obtain ⟨g1, g2⟩ := set_three (a' := .int .i64 v) (b' := .bool y) (c' := .int .i64 0) km.out
  obtain ⟨W3, e3⟩ : ∃ W3, ((W1.setCell ⟨s, 0, none⟩ (.int .i64 v)).setCell ⟨s, 1, none⟩ (.bool y)).setCell ⟨s, 2, none⟩ (.int .i64 0) = W3 := ⟨_, rfl⟩
  rw [e3] at g1 g2 ⊢
  obtain ⟨p0, p1, p2, _⟩ := three_cells g1
  refine bodyPost_ret (v := .tuple #[ans v y, .bool d]) ?_ rfl ⟨rfl, W0, W1, kf.out, kt.out, kfr.out, ktt.out, Frm.mono g2 (fun k _ e => by omega)⟩
  simp [results, Try.f45, go_sem, p0, p1, p2, ans]

set_option maxRecDepth 100000 in
set_option maxHeartbeats 4000000 in
/-- A step that puts. -/
theorem step_put (tb q f : Nat) (b : Array Value) (l' : Value) (v : Int) (y : Bool) (w : World) (h : TurnC G w tb q l' (.func (.func f) #[] b) true) (S : Nat → Prop) (hS : ∀ k, S k → k < w.heap.size) (T : World → Prop)
    (eg : ∀ args w, (callFunc f args).run Try.prog w = .ok (.enter f args) w)
    (hP : ∀ W, Old w W → Calls Try.prog f b W fun e W' => e = .returned (.tuple #[ans v y, .bool true]) ∧ Frm S W W' ∧ T W') :
    Calls Try.prog 45 #[.pointer (some ⟨tb, q, none⟩)] w fun e w' => e = .returned (.tuple #[ans v y, .bool true]) ∧ ∃ W W', Old w W ∧ Frm S W W' ∧ T W' ∧ Frm (fun k => w.heap.size ≤ k) W' w' := by
  have l := h.lt
  have c1 := h.c1
  have c2 := h.c2
  have o0 : Old w (w.alloc (.cells #[.int .i64 0, .bool false, .int .i64 0] 52)) := (Old.refl w).alloc _
  have n0 := heap_new w (.cells #[.int .i64 0, .bool false, .int .i64 0] 52)
  obtain ⟨W0, x0⟩ : ∃ W0, w.alloc (.cells #[.int .i64 0, .bool false, .int .i64 0] 52) = W0 := ⟨_, rfl⟩
  rw [x0] at o0 n0
  have kx := hid x0
  clear x0
  have kP := hid (hP W0 o0)
  have ko := hid o0
  have kn := hid n0
  have hS' := hid hS
  clear hP h o0 n0 hS
  go_enter Try.func45, Try.ntmps45
  go_wp2_with fail
  rw [kx.out]
  clear kx
  refine kP.out.mono ?_
  rintro e W1 ⟨rfl, fr, t⟩
  have hz := (Array.getElem?_eq_some_iff.1 kn.out).1
  have hm := (fr.block w.heap.size hz (fun h => by have := hS'.out _ h; omega)).trans kn.out
  have sz := fr.size
  obtain ⟨s, hs⟩ : ∃ s, w.heap.size = s := ⟨_, rfl⟩
  rw [hs] at hm hz ⊢
  have km := hid hm
  have kfr := hid fr
  have ktt := hid t
  have ls : s < W1.heap.size := by omega
  clear hm fr t kP kn
  obtain ⟨d0, d1, d2, dz⟩ := three_cells km.out
  have z00 := dz 0
  have z01 := dz 1
  have z02 := dz 2
  unfold ans
  clear dz
  go_wp2
  obtain ⟨g1, g2⟩ := set_three (a' := .int .i64 v) (b' := .bool y) (c' := .int .i64 0) km.out
  obtain ⟨W3, e3⟩ : ∃ W3, ((W1.setCell ⟨s, 0, none⟩ (.int .i64 v)).setCell ⟨s, 1, none⟩ (.bool y)).setCell ⟨s, 2, none⟩ (.int .i64 0) = W3 := ⟨_, rfl⟩
  rw [e3] at g1 g2 ⊢
  obtain ⟨p0, p1, p2, _⟩ := three_cells g1
  have oX : Frm (fun k => s ≤ k) W1 (W3.alloc (.cells #[.int .i64 v, .bool y, .int .i64 0] 52)) := (Frm.mono g2 (fun k _ e => by omega)).alloc _
  have q0 := ((Old.refl W3).alloc (.cells #[.int .i64 v, .bool y, .int .i64 0] 52)).cell p0
  have q1 := ((Old.refl W3).alloc (.cells #[.int .i64 v, .bool y, .int .i64 0] 52)).cell p1
  have q2 := ((Old.refl W3).alloc (.cells #[.int .i64 v, .bool y, .int .i64 0] 52)).cell p2
  refine bodyPost_ret (v := .tuple #[ans v y, .bool true]) ?_ rfl ⟨rfl, W0, W1, ko.out, kfr.out, ktt.out, Frm.mono oX (fun k _ h => by omega)⟩
  simp [results, Try.f45, go_sem, q0, q1, q2, ans]

set_option maxRecDepth 100000 in
set_option maxHeartbeats 4000000 in
/-- A step whose put fails: it looks. -/
theorem step_miss (tb q f g : Nat) (b b' : Array Value) (v0 v : Int) (y0 y d : Bool) (w : World) (h : TurnC G w tb q (.func (.func g) #[] b') (.func (.func f) #[] b) true) (S : Nat → Prop) (hS : ∀ k, S k → k < w.heap.size) (T : World → Prop)
    (eg : ∀ args w, (callFunc f args).run Try.prog w = .ok (.enter f args) w)
    (eh : ∀ args w, (callFunc g args).run Try.prog w = .ok (.enter g args) w)
    (hP : ∀ W, Old w W → Calls Try.prog f b W fun e W' => e = .returned (.tuple #[ans v0 y0, .bool false]) ∧ Old W W')
    (hL : ∀ W, Frm (fun k => k = tb) w W → TurnC G W tb q (.func (.func g) #[] b') (.func (.func f) #[] b) true → Calls Try.prog g b' W fun e W' => e = .returned (.tuple #[ans v y, .bool d]) ∧ Frm S W W' ∧ T W') :
    Calls Try.prog 45 #[.pointer (some ⟨tb, q, none⟩)] w fun e w' => e = .returned (.tuple #[ans v y, .bool d]) ∧ ∃ W W', Frm (fun k => k = tb) w W ∧ TurnC G W tb q (.func (.func g) #[] b') (.func (.func f) #[] b) true ∧ Frm S W W' ∧ T W' ∧ Frm (fun k => w.heap.size ≤ k) W' w' := by
  have l := h.lt
  have c1 := h.c1
  have c2 := h.c2
  have o0 : Old w (w.alloc (.cells #[.int .i64 0, .bool false, .int .i64 0] 52)) := (Old.refl w).alloc _
  have n0 := heap_new w (.cells #[.int .i64 0, .bool false, .int .i64 0] 52)
  obtain ⟨W0, x0⟩ : ∃ W0, w.alloc (.cells #[.int .i64 0, .bool false, .int .i64 0] 52) = W0 := ⟨_, rfl⟩
  rw [x0] at o0 n0
  have kx := hid x0
  clear x0
  have kP := hid (hP W0 o0)
  have ko := hid o0
  have kn := hid n0
  have hS' := hid hS
  have kL := hid hL
  have kh := hid h
  clear hP h o0 n0 hS hL
  go_enter Try.func45, Try.ntmps45
  go_wp2_with fail
  rw [kx.out]
  clear kx
  refine kP.out.mono ?_
  rintro e W1 ⟨rfl, fr⟩
  have hz := (Array.getElem?_eq_some_iff.1 kn.out).1
  have hm := (fr.block w.heap.size hz (fun h => h)).trans kn.out
  have o1 := Old.trans ko.out fr
  have h1 := kh.out.frm o1 (fun h => h)
  have l1 := h1.lt
  have sz := fr.size
  have d2 := h1.c2
  have z2 := h1.fz (q + 2)
  have f2 := frm_set W1 tb (q + 2) (.bool true)
  have h2 : TurnC G (W1.setCell ⟨tb, q + 2, none⟩ (.bool true)) tb q (.func (.func g) #[] b') (.func (.func f) #[] b) true := ⟨(World.cell?_setCell_other _ ⟨tb, q + 2, none⟩ ⟨tb, q, none⟩ _ (by simp)).trans h1.c0, (World.cell?_setCell_other _ ⟨tb, q + 2, none⟩ ⟨tb, q + 1, none⟩ _ (by simp)).trans h1.c1, World.cell?_setCell_same _ _ _ h1.c2, fun i => by simp [h1.fz i], fun i hi => (World.cell?_setCell_other _ ⟨tb, q + 2, none⟩ ⟨tb, i, none⟩ _ (by simp <;> omega)).trans (h1.rest i hi)⟩
  have d0 := h2.c0
  have oX : Old (W1.setCell ⟨tb, q + 2, none⟩ (.bool true)) ((W1.setCell ⟨tb, q + 2, none⟩ (.bool true)).alloc (.cells #[.int .i64 v0, .bool y0, .int .i64 0] 52)) := (Old.refl _).alloc _
  have f3 : Frm (fun k => k = tb) w ((W1.setCell ⟨tb, q + 2, none⟩ (.bool true)).alloc (.cells #[.int .i64 v0, .bool y0, .int .i64 0] 52)) := Frm.trans (Frm.trans (Frm.mono o1 (fun _ _ h => h.elim)) f2 (fun _ _ h => h)) oX (fun _ _ h => h.elim)
  have m3 : ((W1.setCell ⟨tb, q + 2, none⟩ (.bool true)).alloc (.cells #[.int .i64 v0, .bool y0, .int .i64 0] 52)).heap[w.heap.size]? = some (.cells #[.int .i64 0, .bool false, .int .i64 0] 52 (0, 0)) := (oX.block w.heap.size (by simp [World.setCell]; omega) (fun h => h)).trans ((f2.block w.heap.size (by omega) (by omega)).trans hm)
  have h3 := h2.frm oX (fun h => h)
  obtain ⟨W2, x2⟩ : ∃ W2, (W1.setCell ⟨tb, q + 2, none⟩ (.bool true)).alloc (.cells #[.int .i64 v0, .bool y0, .int .i64 0] 52) = W2 := ⟨_, rfl⟩
  rw [x2] at f3 m3 h3
  have kx := hid x2
  have kf := hid f3
  have kt := hid h3
  have kn := hid m3
  have kLL := hid (kL.out W2 f3 h3)
  clear x2 f3 h3 m3 oX h2 f2 h1 o1 fr kL kh kP ko hm
  unfold ans
  go_wp2_with fail
  rw [kx.out]
  clear kx
  refine kLL.out.mono ?_
  rintro e W1 ⟨rfl, fr, t⟩
  have hz := (Array.getElem?_eq_some_iff.1 kn.out).1
  have hm := (fr.block w.heap.size hz (fun h => by have := hS'.out _ h; omega)).trans kn.out
  obtain ⟨s, hs⟩ : ∃ s, w.heap.size = s := ⟨_, rfl⟩
  rw [hs] at hm ⊢
  have km := hid hm
  have kfr := hid fr
  have ktt := hid t
  clear hm fr t kLL kn hz d2 z2 d0 c1 c2 l1 sz
  obtain ⟨d0, d1, d2, dz⟩ := three_cells km.out
  have z00 := dz 0
  have z01 := dz 1
  have z02 := dz 2
  unfold ans
  clear dz
  go_wp2
  obtain ⟨g1, g2⟩ := set_three (a' := .int .i64 v) (b' := .bool y) (c' := .int .i64 0) km.out
  obtain ⟨W3, e3⟩ : ∃ W3, ((W1.setCell ⟨s, 0, none⟩ (.int .i64 v)).setCell ⟨s, 1, none⟩ (.bool y)).setCell ⟨s, 2, none⟩ (.int .i64 0) = W3 := ⟨_, rfl⟩
  rw [e3] at g1 g2 ⊢
  obtain ⟨p0, p1, p2, _⟩ := three_cells g1
  refine bodyPost_ret (v := .tuple #[ans v y, .bool d]) ?_ rfl ⟨rfl, W2, W1, kf.out, kt.out, kfr.out, ktt.out, Frm.mono g2 (fun k _ e => by omega)⟩
  simp [results, Try.f45, go_sem, p0, p1, p2, ans]
end Go.Proofs.Ytpnnfkgnkalhlaa
