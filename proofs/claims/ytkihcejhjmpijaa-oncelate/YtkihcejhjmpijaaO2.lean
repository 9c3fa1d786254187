/- sync.Once, in the run of one: done for the first time, whatever the function; and done already. -/
import Derived.Test.YtkihcejhjmpijaaO1
namespace Go.Proofs.Ytkihcejhjmpijaa
open Go.RowKit

set_option maxRecDepth 100000 in
set_option maxHeartbeats 4000000 in
theorem slow_any (b f : Nat) (caps : Array Value) (ov v e : Int) (w : World) (h : OutM w b 0 0 ov v e) (eg : ∀ args w, (callFunc f args).run Try.prog w = .ok (.enter f args) w)
    (Q : World → Prop) (hQ : ∀ W, Q W → ∃ ov v e, OutM W b 0 1 ov v e)
    (hF : Calls Try.prog f caps (w.setCell ⟨b, 1, none⟩ (.int .i32 1)) fun e W => e = .returned (.tuple #[]) ∧ Q W) :
    Calls Try.prog 36 #[.pointer (some ⟨b, 0, none⟩), .func (.func f) #[] caps] w fun e w' => e = .returned (.tuple #[]) ∧ ∃ W, Q W ∧ w' = (W.drew.setCell ⟨b, 0, none⟩ (.int .u32 1)).setCell ⟨b, 1, none⟩ (.int .i32 0) := by
  have c1 := h.c1
  have f1 := h.fz 1
  have kF := hid hF
  have kQ := hid hQ
  have kl := hid (load_bool ⟨b, 0, none⟩ 0 false rfl (w.setCell ⟨b, 1, none⟩ (.int .i32 1)) (h.s1 1).c0)
  clear hF hQ h
  go_enter_defers Try.func36, Try.ntmps36
  go_wp2_with (first | (go_at_call 38; refine (lock_free ⟨b, 1, none⟩ _ c1 f1).mono ?_; rintro e w' ⟨rfl, rfl⟩) | (go_at_call 14; refine kl.out.mono ?_; rintro e w' ⟨rfl, rfl⟩))
  refine kF.out.mono ?_
  rintro e W ⟨rfl, q⟩
  obtain ⟨ov', v', e', o⟩ := kQ.out W q
  go_wp2_with fail
  refine leaves_cons (f := 18) (args := #[.pointer (some ⟨b, 0, none⟩), .bool true]) (by simp) (by simp [go_sem]) ?_
  refine (store_deferred ⟨b, 0, none⟩ (.int .u32 0) .returning _ o.c0 (o.fz 0)).mono ?_
  rintro e u' w'' ⟨rfl, rfl, rfl⟩
  refine leaves_cons (f := 39) (args := #[.pointer (some ⟨b, 1, none⟩)]) (by simp [settle]) (by simp [go_sem]) ?_
  refine (unlock_deferred ⟨b, 1, none⟩ _ _ (o.drew.s0 1).c1 ((o.drew.s0 1).fz 1)).mono ?_
  rintro e u' w'' ⟨rfl, rfl, rfl⟩
  simp [Leaves, settle, results, Try.results36]
  exact ⟨W, q, rfl⟩

set_option maxRecDepth 100000 in
set_option maxHeartbeats 4000000 in
theorem do_first (b f : Nat) (caps : Array Value) (ov v e : Int) (w : World) (h : OutM w b 0 0 ov v e) (eg : ∀ args w, (callFunc f args).run Try.prog w = .ok (.enter f args) w)
    (Q : World → Prop) (hQ : ∀ W, Q W → ∃ ov v e, OutM W b 0 1 ov v e)
    (hF : Calls Try.prog f caps (w.setCell ⟨b, 1, none⟩ (.int .i32 1)) fun e W => e = .returned (.tuple #[]) ∧ Q W) :
    Calls Try.prog 24 #[.pointer (some ⟨b, 0, none⟩), .func (.func f) #[] caps] w fun e w' => e = .returned (.tuple #[]) ∧ ∃ W, Q W ∧ w' = (W.drew.setCell ⟨b, 0, none⟩ (.int .u32 1)).setCell ⟨b, 1, none⟩ (.int .i32 0) := by
  have kS := hid (slow_any b f caps ov v e w h eg Q hQ hF)
  have kl := hid (load_bool ⟨b, 0, none⟩ 0 false rfl w h.c0)
  clear hF hQ h
  go_enter Try.func24, Try.ntmps24
  go_wp2_with (first | (go_at_call 36; refine kS.out.mono ?_; rintro e w' ⟨rfl, q⟩) | (go_at_call 14; refine kl.out.mono ?_; rintro e w' ⟨rfl, rfl⟩))
  go_end0
  exact ⟨rfl, q⟩

set_option maxRecDepth 100000 in
theorem do_done (b : Nat) (g : Fn) (r c : Array Value) (w : World) (h : w.cell? ⟨b, 0, none⟩ = some (.int .u32 1)) :
    Calls Try.prog 24 #[.pointer (some ⟨b, 0, none⟩), .func g r c] w fun e w' => e = .returned (.tuple #[]) ∧ w' = w := by
  have kl := hid (load_bool ⟨b, 0, none⟩ 1 true rfl w h)
  go_enter Try.func24, Try.ntmps24
  go_wp2_with (go_at_call 14; refine kl.out.mono ?_; rintro e w' ⟨rfl, rfl⟩)
  go_end0
  exact ⟨rfl, rfl⟩
end Go.Proofs.Ytkihcejhjmpijaa
