/- A job that is run: what is deferred, the job that comes back, the job that panics. -/
import Derived.Test.YtkihcejhjmpijaaO2
namespace Go.Proofs.Ytkihcejhjmpijaa
open Go.RowKit

set_option maxRecDepth 100000 in
set_option maxHeartbeats 4000000 in
theorem run1_panicking (be g : Nat) (gc : Array Value) (u : TypeId) (pv : Value) (older : List PanicEntry) (w : World) (hc : w.cell? ⟨be, 0, none⟩ = some (.func (.func g) #[] gc)) (eg : ∀ args w, (callFunc g args).run Try.prog w = .ok (.enter g args) w)
    (R : World → Prop) (hE : Calls Try.prog g gc w fun e W => e = .returned (.tuple #[]) ∧ R W) :
    CallsD Try.prog 37 #[.pointer (some ⟨be, 0, none⟩)] (.panicking ({ v := .iface u pv, recovered := false } :: older)) w fun e u' w' =>
      e = .returned (.tuple #[]) ∧ u' = .panicking ({ v := .iface u pv, recovered := true } :: older) ∧ R w' := by
  have kE := hid hE
  clear hE
  refine callsD_of_wpS Try.func37 rfl fun c₀ cs hu => ?_
  apply wpS_seq
  apply wpS_region
  simp [wpOpsS, go_sem, recoverD, hu, Try.ntmps37, Exit.thenS]
  refine wpS_of_wp ?_
  go_wp2_with fail
  refine kE.out.mono ?_
  rintro e W ⟨rfl, q⟩
  go_wp2_with fail
  simp [bodyPostS, results, Try.results37, q]

set_option maxRecDepth 100000 in
set_option maxHeartbeats 4000000 in
theorem run1_returning (be g : Nat) (gc : Array Value) (w : World) (hc : w.cell? ⟨be, 0, none⟩ = some (.func (.func g) #[] gc)) (eg : ∀ args w, (callFunc g args).run Try.prog w = .ok (.enter g args) w)
    (R : World → Prop) (hE : Calls Try.prog g gc w fun e W => e = .returned (.tuple #[]) ∧ R W) :
    CallsD Try.prog 37 #[.pointer (some ⟨be, 0, none⟩)] .returning w fun e u' w' =>
      e = .returned (.tuple #[]) ∧ u' = .returning ∧ R w' := by
  have kE := hid hE
  clear hE
  refine callsD_of_wpS Try.func37 rfl fun c₀ cs hu => ?_
  apply wpS_seq
  apply wpS_region
  simp [wpOpsS, go_sem, recoverD, hu, Try.ntmps37, Exit.thenS]
  refine wpS_of_wp ?_
  go_wp2_with fail
  refine kE.out.mono ?_
  rintro e W ⟨rfl, q⟩
  go_wp2_with fail
  cases c₀
  simp_all [bodyPostS, results, Try.results37]

set_option maxRecDepth 100000 in
set_option maxHeartbeats 4000000 in
/-- A job that comes back with v. -/
theorem run_good (b f g : Nat) (fc gc : Array Value) (d m ov v0 e0 v : Int) (w : World) (h : OutM w b d m ov v0 e0) (ef : ∀ args w, (callFunc f args).run Try.prog w = .ok (.enter f args) w) (eg : ∀ args w, (callFunc g args).run Try.prog w = .ok (.enter g args) w)
    (Q R : World → Prop) (hQ : ∀ W, Q W → OutM W b d m ov v0 150 ∧ W.cell? ⟨w.heap.size, 0, none⟩ = some (.func (.func g) #[] gc))
    (hJ : Calls Try.prog f fc ((w.setCell ⟨b, 5, none⟩ (.int .i64 150)).alloc (.cells #[.func (.func g) #[] gc] 1)) fun e W => e = .returned (.int .i64 v) ∧ Q W)
    (hE : ∀ W, Q W → Calls Try.prog g gc ((W.setCell ⟨b, 4, none⟩ (.int .i64 v)).setCell ⟨b, 5, none⟩ (.int .i64 0)) fun e W' => e = .returned (.tuple #[]) ∧ R W') :
    Calls Try.prog 26 #[.pointer (some ⟨b, 0, none⟩), .func (.func f) fc #[], .func (.func g) #[] gc] w fun e w' => e = .returned (.tuple #[]) ∧ R w' := by
  have l := h.lt
  have hz : w.heap.size ≠ b := by omega
  have c5 := h.c5
  have f5 := h.fz 5
  have kJ := hid hJ
  have kE := hid hE
  have kQ := hid hQ
  clear hJ hE hQ h
  go_enter_defers Try.func26, Try.ntmps26
  go_wp2_with fail
  refine kJ.out.mono ?_
  rintro e W ⟨rfl, q⟩
  obtain ⟨o, cb⟩ := kQ.out W q
  have c4 := o.c4
  have f4 := o.fz 4
  have c5' := (o.s4 v).c5
  have f5' := (o.s4 v).fz 5
  have cb' : ((W.setCell ⟨b, 4, none⟩ (.int .i64 v)).setCell ⟨b, 5, none⟩ (.int .i64 0)).cell? ⟨w.heap.size, 0, none⟩ = some (.func (.func g) #[] gc) := by
    rw [World.cell?_setCell_other _ _ _ _ (by simp), World.cell?_setCell_other _ _ _ _ (by simp)]
    exact cb
  go_wp2_with fail
  refine leaves_cons (f := 37) (args := #[.pointer (some ⟨w.heap.size, 0, none⟩)]) (by simp) (by simp [go_sem]) ?_
  refine (run1_returning w.heap.size g gc _ cb' eg R (kE.out W q)).mono ?_
  rintro e u' w'' ⟨rfl, rfl, r⟩
  simp [Leaves, settle, results, Try.results26, r]

set_option maxRecDepth 100000 in
set_option maxHeartbeats 4000000 in
/-- A job that panics. -/
theorem run_wrong (b f g : Nat) (fc gc : Array Value) (d m ov v0 e0 : Int) (u : TypeId) (pv : Value) (w : World) (h : OutM w b d m ov v0 e0) (ef : ∀ args w, (callFunc f args).run Try.prog w = .ok (.enter f args) w) (eg : ∀ args w, (callFunc g args).run Try.prog w = .ok (.enter g args) w)
    (Q R : World → Prop) (hQ : ∀ W, Q W → W.cell? ⟨w.heap.size, 0, none⟩ = some (.func (.func g) #[] gc))
    (hJ : Calls Try.prog f fc ((w.setCell ⟨b, 5, none⟩ (.int .i64 150)).alloc (.cells #[.func (.func g) #[] gc] 1)) fun e W => e = .panicked [{ v := .iface u pv, recovered := false }] ∧ Q W)
    (hE : ∀ W, Q W → Calls Try.prog g gc W fun e W' => e = .returned (.tuple #[]) ∧ R W') :
    Calls Try.prog 26 #[.pointer (some ⟨b, 0, none⟩), .func (.func f) fc #[], .func (.func g) #[] gc] w fun e w' => e = .returned (.tuple #[]) ∧ R w' := by
  have l := h.lt
  have hz : w.heap.size ≠ b := by omega
  have c5 := h.c5
  have f5 := h.fz 5
  have kJ := hid hJ
  have kE := hid hE
  have kQ := hid hQ
  clear hJ hE hQ h
  go_enter_defers Try.func26, Try.ntmps26
  go_wp2_with fail
  refine kJ.out.mono ?_
  rintro e W ⟨rfl, q⟩
  have cb := kQ.out W q
  go_wp2_with fail
  refine leaves_cons (f := 37) (args := #[.pointer (some ⟨w.heap.size, 0, none⟩)]) (by simp) (by simp [go_sem]) ?_
  refine (run1_panicking w.heap.size g gc u pv [] _ cb eg R (kE.out W q)).mono ?_
  rintro e u' w'' ⟨rfl, rfl, r⟩
  simp [Leaves, settle, results, Try.results26, go_sem, r]
end Go.Proofs.Ytkihcejhjmpijaa
