/- All of a calendar. -/
import Derived.Test.YtbaibikpdaphoaaS3
import Derived.Test.YtbaibikpdaphoaaN1
namespace Go.Proofs.Ytbaibikpdaphoaa
open Go.RowKit Go.Lib Go.Maps Go.Sort

/-- A list that is told: new since w. -/
def Told (w w' : World) (v : Value) (R : List Due) : Prop := (v = .slice none 0 0 ∧ R = []) ∨ ∃ g cap, v = .slice (some ⟨g, 0, none⟩) R.length cap ∧ w.heap.size ≤ g ∧ g < w'.heap.size ∧ DueC w' (some ⟨g, 0, none⟩) R

theorem allq : ∀ (w : World) (a : Option Addr), (binOp .neq 65 (.pointer a) (.pointer none)).run Try.prog w = .ok (.bool a.isSome) w := by
  intro w a
  cases a <;> kernel_rfl

set_option maxRecDepth 100000 in
set_option maxHeartbeats 4000000 in
theorem all_any (bt : Nat) (F : Nat → Prop) (now : Int) (R : List Due) (w : World) (h : TkS w bt F now R) (hl : R.length ≤ 1000000000) :
    Calls Try.prog 17 #[.pointer (some ⟨bt, 0, none⟩)] w fun e w' => ∃ B v, e = .returned (.func (.func 48) #[] #[.pointer (some ⟨B, 0, none⟩)]) ∧ w'.cell? ⟨B, 0, none⟩ = some v ∧ w.heap.size ≤ B ∧ B < w'.heap.size ∧ Told w w' v R ∧ Old w w' := by
  obtain ⟨bc, bm, v, G, P, h⟩ := h
  have hk := hid (kept_any bt _ w h.cell)
  have c1 := h.cal.cells.2.1
  have kv := hid values_any
  have hgl := h.perm.length_eq
  rcases h.cal.sl with ⟨rfl, hG⟩ | ⟨hb, cap, rfl, hrow, hne, hcm⟩
  · have kc := hid clone_none
    have ks := hid sort_nil
    have kR := hid (show R = [] by rw [hG] at hgl; exact List.eq_nil_of_length_eq_zero hgl.symm)
    clear h hG hgl
    go_enter Try.func17, Try.ntmps17
    go_wp2_with fail
    refine hk.out.mono ?_
    rintro e w2 ⟨rfl, e2⟩
    rw [e2]
    clear e2 w2
    go_wp2_with fail
    refine (kc.out _).mono ?_
    rintro e w2 ⟨rfl, e2⟩
    rw [e2]
    clear e2 w2
    go_wp2_with fail
    refine (ks.out _ _).mono ?_
    rintro e w2 ⟨rfl, e2⟩
    rw [e2]
    clear e2 w2
    go_wp2_with fail
    refine (kv.out _ _ _ _).mono ?_
    rintro e w2 ⟨rfl, e2⟩
    rw [e2]
    clear e2 w2
    go_wp2
    go_ret
    exact ⟨w.heap.size, _, rfl, new_cell _ _ _ _ _ rfl, Nat.le_refl _, by rw [alloc_size]; omega, Or.inl ⟨rfl, kR.out⟩, (Old.refl w).alloc _⟩
  · have kc := hid (clone_dues cap hrow (by omega))
    have ks := hid (fun (W : World) (g c : Nat) (hW : Row W g c G) => sort_dues c hW h.srt h.perm (by omega))
    have kl := hid hgl
    clear h hrow hne hcm hgl
    generalize G.length = n at *
    go_enter Try.func17, Try.ntmps17
    go_wp2_with fail
    refine hk.out.mono ?_
    rintro e w2 ⟨rfl, e2⟩
    rw [e2]
    clear e2 w2
    go_wp2_with fail
    refine kc.out.mono ?_
    rintro e w2 ⟨g, c, rfl, r1, r2, r3⟩
    have k1 := hid r1
    have k3 := hid r3
    clear r1 r3
    go_wp2_with fail
    refine (ks.out _ _ _ k1.out).mono ?_
    rintro e w3 ⟨rfl, r4, r5, r6⟩
    have k5 := hid r5
    have k6 := hid (show Old w w3 ∧ g < w3.heap.size from ⟨Frm.trans k3.out r6 (fun k hk e => by omega), Nat.lt_of_lt_of_le k1.out.lt r6.size⟩)
    clear r4 r5 r6
    go_wp2_with fail
    refine (kv.out _ _ _ _).mono ?_
    rintro e w4 ⟨rfl, e4⟩
    rw [e4]
    clear e4 w4
    go_wp2
    go_ret
    have ho := k6.out.1.size
    have hal : Old w3 (w3.alloc (.cells #[.slice (some ⟨g, 0, none⟩) n c] 22)) := (Old.refl w3).alloc _
    refine ⟨w3.heap.size, _, rfl, new_cell _ _ _ _ _ rfl, ho, by rw [alloc_size]; omega, Or.inr ⟨g, c, by rw [kl.out]; rfl, r2, by rw [alloc_size]; have := k6.out.2; omega, ?_⟩, k6.out.1.trans hal⟩
    intro i hi
    obtain ⟨b, o, h1, h2, h3⟩ := k5.out i hi
    exact ⟨b, o, h1, hal.cell h2, hal.cell h3⟩
end Go.Proofs.Ytbaibikpdaphoaa
