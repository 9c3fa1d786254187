/- A gate: arrived at, read, made. -/
import Derived.Test.YtpnnfkgnkalhlaaJ3
import Derived.BigQuiet
import Derived.Laws.LoneSync
import Derived.Lib.Builder
namespace Go.Proofs.Ytpnnfkgnkalhlaa
open Go.RowKit

set_option maxRecDepth 100000 in
theorem gate_arriving (p : Option Addr) (k x : Int) (w : World) :
    Calls Try.prog 50 #[.pointer p, .int .i64 k, .int .i64 x] w fun e w' => e = .returned (.tuple #[.func (.func 83) #[] #[.pointer (some ⟨w.heap.size + 1, 0, none⟩)], Value.nilFunc]) ∧ Old w w' ∧ (∃ t, w'.heap[w.heap.size]? = some (.cells #[.pointer p] t (0, 0))) ∧ (∃ t, w'.heap[w.heap.size + 1]? = some (.cells #[.func (.func 71) #[] #[.pointer (some ⟨w.heap.size, 0, none⟩)]] t (0, 0))) ∧ w'.heap.size = w.heap.size + 2 := by
  have kO := hid (fun b W => at_once (.func (.func 71) #[] b) _ _ _ rfl W)
  go_enter Try.func50, Try.ntmps50
  go_wp2_with fail
  refine (kO.out _ _).mono ?_
  rintro e w1 ⟨rfl, o1, ⟨t1, a1⟩, a2⟩
  have hz : (w.alloc (.cells #[.pointer p] 29)).heap.size = w.heap.size + 1 := by simp only [World.alloc, Array.size_push]
  have a0 := (o1.block w.heap.size (by omega) (fun h => h)).trans (heap_new w _)
  have oo : Old w w1 := Frm.trans ((Old.refl w).alloc _) o1 (fun _ _ h => h)
  rw [hz] at a1 a2 ⊢
  have k0 := hid a0
  have k1 := hid a1
  have k2 := hid a2
  have ko := hid oo
  clear a0 a1 a2 o1 oo hz kO
  go_wp2
  refine bodyPost_ret ?_ rfl ⟨rfl, ko.out, ⟨_, k0.out⟩, ⟨_, k1.out⟩, by rw [k2.out]⟩
  simp [results, Try.f50, go_sem]

theorem gate_whole (bm bf mb nb : Nat) (x v : Int) (t : TypeId) (w : World) (h1 : w.cell? ⟨bm, 0, none⟩ = some (.pointer (some ⟨mb, 0, none⟩))) (h2 : w.cell? ⟨mb, 0, none⟩ = some (.pointer (some ⟨nb, 0, none⟩))) (h4 : w.cell? ⟨mb, 1, none⟩ = some (.int .i64 x)) (h3 : w.heap[nb]? = some (.cells #[.int .i64 v] t (0, 0))) (h5 : w.cell? ⟨bf, 0, none⟩ = some (.func (.func 71) #[] #[.pointer (some ⟨bm, 0, none⟩)])) (n1 : nb ≠ bm) (n2 : nb ≠ mb) (hr : IntKind.i64.wrap (v + 1) = v + 1) (hq : wrap64 v = v) :
    Calls Try.prog 33 #[.func (.func 83) #[] #[.pointer (some ⟨bf, 0, none⟩)], Value.nilFunc] w fun e w' => e = .returned (ans v (decide (x ≤ v + 1))) ∧ Frm (fun k => k = nb) w w' ∧ w'.heap[nb]? = some (.cells #[.int .i64 (v + 1)] t (0, 0)) := by
  have e1 : ∀ args w, (callFunc 71 args).run Try.prog w = .ok (.enter 71 args) w := enters_of Try.func71 (by kernel_rfl) rfl
  have e2 : ∀ args w, (callFunc 83 args).run Try.prog w = .ok (.enter 83 args) w := enters_of Try.func83 (by kernel_rfl) rfl
  have l3 : nb < w.heap.size := (Array.getElem?_eq_some_iff.1 h3).1
  refine (whole_nil 83 _ v (decide (x ≤ v + 1)) w (fun W' => Frm (fun k => k = nb) w W' ∧ W'.heap[nb]? = some (.cells #[.int .i64 (v + 1)] t (0, 0))) e2 ?_).mono ?_
  · intro W hW
    have lW : nb < W.heap.size := Nat.lt_of_lt_of_le l3 hW.size
    refine (at_once_do bf 71 _ v (decide (x ≤ v + 1)) W (fun k => k = nb) (fun k e => by omega) (fun W' => Frm (fun k => k = nb) W W' ∧ W'.heap[nb]? = some (.cells #[.int .i64 (v + 1)] t (0, 0))) e1 (hW.cell h5) ?_).mono ?_
    · intro W2 hW2
      have hO : Old w W2 := Frm.trans hW hW2 (fun _ _ h => h)
      refine (gate_do bm mb nb x v W2 (hO.cell h1) (hO.cell h2) (hO.cell h4) t ((hO.block nb l3 (fun h => h)).trans h3) n1 n2 hr hq).mono ?_
      rintro e W' ⟨rfl, hf, hb⟩
      exact ⟨rfl, hf, Frm.trans (Frm.mono hW2 (fun _ _ h => h.elim)) hf (fun _ _ h => h), hb⟩
    · rintro e w' ⟨rfl, hf, W', ⟨hf2, hb⟩, hn⟩
      refine ⟨rfl, Frm.mono hf (fun k _ e => by omega), Frm.trans (Frm.mono hW (fun _ _ h => h.elim)) hf (fun _ _ h => h), ?_⟩
      exact (hn.block nb (Nat.lt_of_lt_of_le lW hf2.size) (by omega)).trans hb
  · rintro e w' ⟨rfl, W', ⟨hf, hb⟩, hn⟩
    exact ⟨rfl, Frm.trans hf hn (fun k hk h => by omega), (hn.block nb (Nat.lt_of_lt_of_le l3 hf.size) (by omega)).trans hb⟩

set_option maxRecDepth 100000 in
set_option maxHeartbeats 4000000 in
theorem gate_arrive (mb nb : Nat) (v x : Int) (w : World) (h : GateS w mb nb x v) (hr : IntKind.i64.wrap (v + 1) = v + 1) (hq : wrap64 v = v) :
    Calls Try.prog 27 #[.pointer (some ⟨mb, 0, none⟩)] w fun e w' => e = .returned (.tuple #[.int .i64 v, .bool (decide (x ≤ v + 1))]) ∧ Frm (fun k => k = nb) w w' ∧ GateS w' mb nb x (v + 1) := by
  obtain ⟨y, hy⟩ : ∃ y, decide (x ≤ v + 1) = y := ⟨_, rfl⟩
  rw [hy]
  have ky := hid hy
  clear hy
  obtain ⟨t, h3⟩ := h.num
  have h2 := h.ptr
  have hne := h.ne
  have h4 := h.opens
  have khr := hid hr
  have khq := hid hq
  have l2 := World.block_lt_of_cell? w _ h2
  have l3 : nb < w.heap.size := (Array.getElem?_eq_some_iff.1 h3).1
  simp only at l2
  have k3 := hid h3
  have k2 := hid h2
  have k4 := hid h4
  clear h h3 hr hq
  have kR := hid (gate_arriving (some ⟨mb, 0, none⟩) 0 0 w)
  go_enter Try.func27, Try.ntmps27
  go_wp2_with (go_at_call 50; refine kR.out.mono ?_; rintro e w1 ⟨rfl, o1, ⟨t1, a1⟩, ⟨t2, a3⟩, a4⟩; clear kR)
  refine (gate_whole w.heap.size (w.heap.size + 1) mb nb x v t w1 (cell_of a1) (o1.cell h2) (o1.cell h4) ((o1.block nb l3 (fun h => h)).trans k3.out) (cell_of a3) (by omega) hne khr.out khq.out).mono ?_
  rintro e w2 ⟨rfl, f2, b2⟩
  rw [ky.out]
  have kf : Hid (Frm (fun k => k = nb) w w2) := hid (Frm.trans (Frm.mono o1 (fun _ _ h => h.elim)) f2 (fun k hk h => by omega))
  have kb := hid b2
  clear o1 a1 a3 a4 f2 b2 h2 h4
  unfold ans
  go_wp2
  obtain ⟨p0, p1, p2, _⟩ := three_cells (heap_new w2 (.cells #[.int .i64 v, .bool y, .int .i64 0] 52))
  have ko := hid ((Old.refl w2).alloc (.cells #[.int .i64 v, .bool y, .int .i64 0] 52))
  obtain ⟨w3, e3⟩ : ∃ w3, w2.alloc (.cells #[.int .i64 v, .bool y, .int .i64 0] 52) = w3 := ⟨_, rfl⟩
  rw [e3] at p0 p1 p2 ko ⊢
  clear e3
  go_quiet (fail)
  go_wp2
  have fz : Frm (fun k => k = nb) w (w3.drewN nq) := Frm.trans kf.out (ko.out.drewN nq) (fun _ _ h => h.elim)
  refine bodyPost_ret (v := .tuple #[.int .i64 v, .bool y]) ?_ rfl ⟨rfl, fz, ⟨frm_cell fz k2.out (by simp only; omega), frm_cell fz k4.out (by simp only; omega), ⟨t, ?_⟩, hne⟩⟩
  · simp [results, Try.f27, go_sem]
  · exact ((ko.out.drewN nq).block nb (Array.getElem?_eq_some_iff.1 kb.out).1 (fun h => h)).trans kb.out


set_option maxRecDepth 100000 in
theorem gate_arrived (mb nb : Nat) (x v : Int) (w : World) (h : GateS w mb nb x v) :
    Calls Try.prog 39 #[.pointer (some ⟨mb, 0, none⟩)] w fun e w' => e = .returned (.int .i64 v) ∧ w' = w := by
  obtain ⟨t, h3⟩ := h.num
  have h2 := h.ptr
  have kL := hid (int64_load nb v w (cell_of h3))
  clear h h3
  go_enter Try.func39, Try.ntmps39
  go_wp2_with (go_at_call 61; refine kL.out.mono ?_; rintro e w2 ⟨rfl, rfl⟩)
  go_ret
  exact ⟨rfl, rfl⟩

set_option maxRecDepth 100000 in
set_option maxHeartbeats 4000000 in
theorem gate_open (mb nb : Nat) (x v : Int) (w : World) (h : GateS w mb nb x v) :
    Calls Try.prog 40 #[.pointer (some ⟨mb, 0, none⟩)] w fun e w' => e = .returned (.bool (decide (x ≤ v))) ∧ Old w w' := by
  obtain ⟨y, hy⟩ : ∃ y, decide (x ≤ v) = y := ⟨_, rfl⟩
  rw [hy]
  obtain ⟨t, h3⟩ := h.num
  have h2 := h.ptr
  have h4 := h.opens
  have h5 := cell_of h3
  have kL := hid (fun W (h : W.cell? ⟨nb, 0, none⟩ = some (.int .i64 v)) => int64_load nb v W h)
  clear h h3
  go_enter Try.func40, Try.ntmps40
  go_wp2
  go_quiet ((go_at_call 61; exact Calls.quiet_of_same (kL.out _ (((Old.refl w).drewN _).cell h5))))
  go_wp2
  go_ret
  exact ⟨rfl, (Old.refl w).drewN _⟩

set_option maxRecDepth 100000 in
theorem gate_new (x : Int) (w : World) (hx : 1 ≤ x) :
    Calls Try.prog 7 #[.int .i64 x] w fun e w' => ∃ mb nb, e = .returned (.tuple #[.pointer (some ⟨mb, 0, none⟩), .int .i64 0]) ∧ Old w w' ∧ GateS w' mb nb x 0 ∧ w.heap.size ≤ mb ∧ w.heap.size ≤ nb := by
  have d1 : decide (x < 1) = false := by simp; omega
  go_enter Try.func7, Try.ntmps7
  go_wp2
  obtain ⟨a, b, c⟩ := two_news w (.cells #[.int .i64 0] 87) (.cells #[.pointer (some ⟨w.heap.size, 0, none⟩), .int .i64 x] 89)
  refine bodyPost_ret (v := .tuple #[.pointer (some ⟨w.heap.size + 1, 0, none⟩), .int .i64 0]) ?_ rfl ⟨w.heap.size + 1, w.heap.size, rfl, ((Old.refl w).alloc _).alloc _, ⟨?_, ?_, ⟨_, a⟩, ?_⟩, ?_, ?_⟩
  · simp [results, Try.f7, go_sem]
  · exact cells_of b rfl
  · exact cells_of b rfl
  · omega
  · omega
  · omega

set_option maxRecDepth 100000 in
theorem gate_new_bad (x : Int) (w : World) (hx : x < 1) :
    Calls Try.prog 7 #[.int .i64 x] w fun e w' => e = .returned (.tuple #[.pointer none, .int .i64 2]) ∧ w' = w := by
  have d1 : decide (x < 1) = true := by simp; omega
  go_enter Try.func7, Try.ntmps7
  go_wp2
  refine bodyPost_ret ?_ rfl ⟨rfl, rfl⟩
  simp [results, Try.f7, go_sem]
end Go.Proofs.Ytpnnfkgnkalhlaa

/- sync/atomic's pointers, in the run of one. -/
namespace Go.Proofs.Ytpnnfkgnkalhlaa
open Go.RowKit

theorem loadp {a : Addr} {p : Option Addr} {w : World} (h : w.cell? a = some (.pointer p)) : (callFunc 79 #[.pointer (some a)]).run Try.prog w = .ok (.value (.pointer p)) w := by
  rw [run_callFunc_extern Try.func79 (by kernel_rfl) (by kernel_rfl) (by kernel_rfl) (e := Extern.Atomic.loadT .ptr) (by kernel_rfl)]
  change (Sem.run Try.prog (Bind.bind (asAddr (.pointer (some a))) _) w).andThen _ = _
  simp [Extern.Atomic.read, asAddr, h, Result.andThen]

theorem same_self (p : Option Addr) (w : World) : (samePointer p p).run Try.prog w = .ok true w := by
  cases p with
  | none => rfl
  | some a => simp [samePointer, sameAddr]

theorem lit1 (x y z : Value) (h1 : #[x, y, z].size = 3) (h2 : 1 < 3) : #[x, y, z].getLit 1 h1 h2 = y := rfl
theorem lit2 (x y z : Value) (h1 : #[x, y, z].size = 3) (h2 : 2 < 3) : #[x, y, z].getLit 2 h1 h2 = z := rfl

theorem casp {a : Addr} {p q : Option Addr} {w : World} (h : w.cell? a = some (.pointer p)) (hz : w.frozen? a = false) : (callFunc 80 #[.pointer (some a), .pointer p, .pointer q]).run Try.prog w = .ok (.value (.bool true)) (w.setCell a (.pointer q)) := by
  rw [run_callFunc_extern Try.func80 (by kernel_rfl) (by kernel_rfl) (by kernel_rfl) (e := Extern.Atomic.casT .ptr) (by kernel_rfl)]
  change (Sem.run Try.prog (Bind.bind (asAddr (.pointer (some a))) _) w).andThen _ = _
  simp [Extern.Atomic.touchesFrozen, Extern.Atomic.read, asAddr, viewAt, World.shape?_isSome_of_cell? h, h, hz, lit1, lit2, same_self, run_store Try.prog w a (.pointer q) .atomic rfl, Result.andThen]
end Go.Proofs.Ytpnnfkgnkalhlaa

/- sync/atomic's Pointer of an offer. -/
namespace Go.Proofs.Ytpnnfkgnkalhlaa
open Go.RowKit

/-- Nothing, or an offer. -/
def OffP (w : World) (p : Option Addr) : Prop := p = none ∨ ∃ ob who x, p = some ⟨ob, 0, none⟩ ∧ w.heap[ob]? = some (.cells #[.int .i64 who, .int .i64 x] 152 (0, 0))

theorem OffP.to {w : World} {p : Option Addr} (h : OffP w p) : (convert 103 105 (.pointer p)).run Try.prog w = .ok (.pointer p) w := by
  rcases h with rfl | ⟨ob, who, x, rfl, hb⟩
  · kernel_rfl
  · exact run_convert_to_unsafe (t := 152) (by kernel_rfl) (by kernel_rfl) (by kernel_rfl) (cells_of (i := 0) hb rfl)

theorem OffP.back {w : World} {p : Option Addr} (h : OffP w p) : (convert 105 103 (.pointer p)).run Try.prog w = .ok (.pointer p) w := by
  rcases h with rfl | ⟨ob, who, x, rfl, hb⟩
  · kernel_rfl
  · have hsh : w.shape? ob = some (152, 2) := by simp [World.shape?, hb]
    obtain ⟨j, hj⟩ : ∃ j, Try.prog.info? 152 = some j := Option.isSome_iff_exists.1 (by kernel_rfl)
    exact Go.Lib.run_from_unsafe (u := 152) (e := 152) (cells := 2) w ⟨ob, 0, none⟩ (by kernel_rfl) (by kernel_rfl) hj hsh (by kernel_rfl)

theorem OffP.frm {w w' : World} {S : Nat → Prop} {p : Option Addr} (h : OffP w p) (f : Frm S w w') (hS : ∀ a, p = some a → ¬ S a.block) : OffP w' p := by
  rcases h with rfl | ⟨ob, who, x, rfl, hb⟩
  · exact Or.inl rfl
  · exact Or.inr ⟨ob, who, x, rfl, (f.block ob (Array.getElem?_eq_some_iff.1 hb).1 (hS _ rfl)).trans hb⟩

set_option maxRecDepth 100000 in
theorem best_load (a : Nat) (p : Option Addr) (w : World) (h : w.cell? ⟨a, 0, none⟩ = some (.pointer p)) (hp : OffP w p) : Calls Try.prog 60 #[.pointer (some ⟨a, 0, none⟩)] w fun e w' => e = .returned (.pointer p) ∧ w' = w := by
  have hd := loadp h
  have hc := hp.back
  clear hp
  go_enter Try.func60, Try.ntmps60
  go_wp2
  go_ret
  exact ⟨rfl, rfl⟩

set_option maxRecDepth 100000 in
theorem best_cas (a : Nat) (p q : Option Addr) (w : World) (h : w.cell? ⟨a, 0, none⟩ = some (.pointer p)) (hz : w.frozen? ⟨a, 0, none⟩ = false) (hp : OffP w p) (hq : OffP w q) : Calls Try.prog 78 #[.pointer (some ⟨a, 0, none⟩), .pointer p, .pointer q] w fun e w' => e = .returned (.bool true) ∧ w' = w.setCell ⟨a, 0, none⟩ (.pointer q) := by
  have hd := casp (q := q) h hz
  have hc := hp.to
  have hc2 := hq.to
  clear hp hq
  go_enter Try.func78, Try.ntmps78
  go_wp2
  go_ret
  exact ⟨rfl, rfl⟩
end Go.Proofs.Ytpnnfkgnkalhlaa

/- Whether an offer takes another's place. -/
namespace Go.Proofs.Ytpnnfkgnkalhlaa
open Go.RowKit

set_option maxRecDepth 100000 in
theorem replaces_none (ob : Nat) (w : World) :
    Calls Try.prog 76 #[.pointer (some ⟨ob, 0, none⟩), .pointer none] w fun e w' => e = .returned (.bool true) ∧ Old w w' := by
  go_enter Try.func76, Try.ntmps76
  go_wp2
  go_quiet (fail)
  go_wp2
  go_ret
  exact ⟨by simp [go_sem], (Old.refl w).drewN _⟩

/-- Whether who's x is better than who2's x2. -/
def better (who x who2 x2 : Int) : Bool := decide (x2 < x) || (decide (x = x2) && decide (who < who2))

set_option maxRecDepth 100000 in
set_option maxHeartbeats 4000000 in
theorem replaces_some (ob pb : Nat) (who x who2 x2 : Int) (w : World) (h1 : w.cell? ⟨ob, 0, none⟩ = some (.int .i64 who)) (h2 : w.cell? ⟨ob, 1, none⟩ = some (.int .i64 x)) (h3 : w.cell? ⟨pb, 0, none⟩ = some (.int .i64 who2)) (h4 : w.cell? ⟨pb, 1, none⟩ = some (.int .i64 x2)) :
    Calls Try.prog 76 #[.pointer (some ⟨ob, 0, none⟩), .pointer (some ⟨pb, 0, none⟩)] w fun e w' => e = .returned (.bool (better who x who2 x2)) ∧ Old w w' := by
  by_cases hx : x2 < x
  · have d1 : decide (x2 < x) = true := by simpa using hx
    have hb : better who x who2 x2 = true := by simp [better, hx]
    rw [hb]
    go_enter Try.func76, Try.ntmps76
    go_wp2
    go_quiet (fail)
    go_wp2
    go_ret
    exact ⟨by simp [go_sem], (Old.refl w).drewN _⟩
  · have d1 : decide (x2 < x) = false := by simpa using hx
    by_cases he : x = x2
    · subst he
      have hb : better who x who2 x = decide (who < who2) := by simp [better]
      rw [hb]
      go_enter Try.func76, Try.ntmps76
      go_wp2
      go_quiet (fail)
      go_wp2
      go_ret
      exact ⟨by simp [go_sem], (Old.refl w).drewN _⟩
    · have d2 : decide (x = x2) = false := by simpa using he
      have hb : better who x who2 x2 = false := by simp [better, he]; omega
      rw [hb]
      go_enter Try.func76, Try.ntmps76
      go_wp2
      go_quiet (fail)
      go_wp2
      go_ret
      exact ⟨by simp [go_sem], (Old.refl w).drewN _⟩
end Go.Proofs.Ytpnnfkgnkalhlaa
