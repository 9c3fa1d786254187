/- A keeper's map: where a key's job is done; the end of a job. -/
import Derived.Test.YtkihcejhjmpijaaO8
import Derived.Test.YtkihcejhjmpijaaShelf
namespace Go.Proofs.Ytkihcejhjmpijaa
open Go.RowKit Go.Maps



set_option maxRecDepth 100000 in
theorem clone_any (x : List UInt8) (w : World) (hx : x.length ≤ 281474976710656) : Calls Try.prog 40 #[.string ⟨x.toArray⟩] w fun e w' => e = .returned (.string ⟨x.toArray⟩) ∧ Old w w' := by
  have kC := hid (Try.stringslite_Clone ⟨x.toArray⟩ w (by simpa [ByteArray.size] using hx))
  go_enter Try.func40, Try.ntmps40
  go_wp2_with (go_at_call 47; refine kC.out.mono ?_; rintro e w' ⟨rfl, ob⟩)
  go_ret
  exact ⟨rfl, Old.of_below ob⟩

/-- A keeper's known: its lock free; the map; how many jobs were done. -/
structure KeepS (w : World) (kb mb : Nat) (runs : Int) (N : Nat) (f : List UInt8 → Option Nat) : Prop where
  c0 : w.cell? ⟨kb, 0, none⟩ = some (.int .i32 0)
  c2 : w.cell? ⟨kb, 2, none⟩ = some (.map (some mb))
  c3 : w.cell? ⟨kb, 3, none⟩ = some (.int .i64 runs)
  fz : ∀ i, w.frozen? ⟨kb, i, none⟩ = false
  km : KM w mb N f

theorem KeepS.lt {w : World} {kb mb N : Nat} {runs : Int} {f : List UInt8 → Option Nat} (h : KeepS w kb mb runs N f) : kb < w.heap.size := World.block_lt_of_cell? w _ h.c0
theorem KeepS.ne {w : World} {kb mb N : Nat} {runs : Int} {f : List UInt8 → Option Nat} (h : KeepS w kb mb runs N f) : kb ≠ mb := fun e => by
  have := h.km.noCell 0
  rw [← e, h.c0] at this
  cases this
theorem KeepS.frm {S : Nat → Prop} {w w' : World} {kb mb N : Nat} {runs : Int} {f : List UInt8 → Option Nat} (h : KeepS w kb mb runs N f) (hf : Frm S w w') (hk : ¬ S kb) (hm : ¬ S mb) : KeepS w' kb mb runs N f :=
  ⟨frm_cell hf h.c0 hk, frm_cell hf h.c2 hk, frm_cell hf h.c3 hk, fun i => frm_frozen hf h.lt (h.fz i) hk, h.km.kept hf hm⟩

set_option maxRecDepth 100000 in
set_option maxHeartbeats 4000000 in
theorem at_hit (kb mb N b : Nat) (runs : Int) (f : List UInt8 → Option Nat) (x : List UInt8) (hx : x.length ≤ maxLen) (w : World) (h : KeepS w kb mb runs N f) (hf : f x = some b) :
    Calls Try.prog 30 #[.pointer (some ⟨kb, 0, none⟩), .string ⟨x.toArray⟩] w fun e w' => e = .returned (.pointer (some ⟨b, 0, none⟩)) ∧ Frm (fun k => k = kb) w w' ∧ KeepS w' kb mb runs N f := by
  have c0 := h.c0
  have z0 := h.fz 0
  have ne := h.ne
  have f1 := frm_set w kb 0 (.int .i32 1)
  have c2 : (w.setCell ⟨kb, 0, none⟩ (.int .i32 1)).cell? ⟨kb, 2, none⟩ = some (.map (some mb)) := set_oth h.c2 (by omega)
  have k1 := h.km.kept f1 (fun e => ne e.symm)
  have hl := k1.look hx
  rw [hf] at hl
  simp only [strV, ptrV, Option.isSome_some] at hl
  have c0' : (w.setCell ⟨kb, 0, none⟩ (.int .i32 1)).cell? ⟨kb, 0, none⟩ = some (.int .i32 1) := set_same c0
  have z0' := set_fz (u := .int .i32 1) (i := 0) h.fz 0
  have kh := hid h
  clear h f1 k1
  go_enter_defers Try.func30, Try.ntmps30
  go_wp2_with (go_at_call 38; refine (lock_free ⟨kb, 0, none⟩ _ c0 z0).mono ?_; rintro e w' ⟨rfl, rfl⟩)
  refine leaves_cons (f := 39) (args := #[.pointer (some ⟨kb, 0, none⟩)]) (by simp) (by simp [go_sem]) ?_
  refine (unlock_deferred ⟨kb, 0, none⟩ .returning _ c0' z0').mono ?_
  rintro e u' w'' ⟨rfl, rfl, rfl⟩
  refine ⟨_, results_tmp rfl _ _ _, rfl, ?_, ?_⟩
  · exact Frm.trans (frm_set w kb 0 _) (frm_set _ kb 0 _) (fun _ _ h => h)
  · have h := kh.out
    refine ⟨set_same c0', set_oth c2 (by omega), set_oth (set_oth h.c3 (by omega)) (by omega), set_fz (set_fz h.fz), (h.km.kept (frm_set w kb 0 _) (fun e => ne e.symm)).kept (frm_set _ kb 0 _) (fun e => ne e.symm)⟩

set_option maxRecDepth 100000 in
set_option maxHeartbeats 8000000 in
theorem at_miss (kb mb N : Nat) (runs : Int) (f : List UInt8 → Option Nat) (x : List UInt8) (hx : x.length ≤ 281474976710656) (hN : N < maxLen) (w : World) (h : KeepS w kb mb runs N f) (hf : f x = none) :
    Calls Try.prog 30 #[.pointer (some ⟨kb, 0, none⟩), .string ⟨x.toArray⟩] w fun e w' => e = .returned (.pointer (some ⟨w.heap.size, 0, none⟩)) ∧ Frm (fun k => k = kb ∨ k = mb) w w' ∧ KeepS w' kb mb runs (N + 1) (updK f x (some w.heap.size)) ∧ OutM w' w.heap.size 0 0 0 0 0 := by
  have hx' : x.length ≤ maxLen := by have : maxLen = 9223372036854775807 := rfl; omega
  have l := h.lt
  have lm := h.km.lt
  have c0 := h.c0
  have z0 := h.fz 0
  have ne := h.ne
  have f1 := frm_set w kb 0 (.int .i32 1)
  have c2 : (w.setCell ⟨kb, 0, none⟩ (.int .i32 1)).cell? ⟨kb, 2, none⟩ = some (.map (some mb)) := set_oth h.c2 (by omega)
  have k1 := h.km.kept f1 (fun e => ne e.symm)
  have hl := k1.look hx'
  rw [hf] at hl
  simp only [strV, ptrV, Option.isSome_none] at hl
  have c0' : (w.setCell ⟨kb, 0, none⟩ (.int .i32 1)).cell? ⟨kb, 0, none⟩ = some (.int .i32 1) := set_same c0
  have z0' := set_fz (u := .int .i32 1) (i := 0) h.fz
  have c3' : (w.setCell ⟨kb, 0, none⟩ (.int .i32 1)).cell? ⟨kb, 3, none⟩ = some (.int .i64 runs) := set_oth h.c3 (by omega)
  have zz : (w.setCell ⟨kb, 0, none⟩ (.int .i32 1)).heap.size = w.heap.size := by simp [World.setCell]
  clear h
  go_enter_defers Try.func30, Try.ntmps30
  go_wp2_with (go_at_call 38; refine (lock_free ⟨kb, 0, none⟩ _ c0 z0).mono ?_; rintro e w' ⟨rfl, rfl⟩)
  have oA : Old (w.setCell ⟨kb, 0, none⟩ (.int .i32 1)) ((w.setCell ⟨kb, 0, none⟩ (.int .i32 1)).alloc (.cells #[.int .u32 0, .int .i32 0, .int .u32 0, .int .u32 0, .int .i64 0, .int .i64 0] 53)) := (Old.refl _).alloc _
  have hn := heap_new (w.setCell ⟨kb, 0, none⟩ (.int .i32 1)) (.cells #[.int .u32 0, .int .i32 0, .int .u32 0, .int .u32 0, .int .i64 0, .int .i64 0] 53)
  rw [zz] at hn
  have out := new_out hn rfl rfl rfl rfl rfl (d := 0) (m := 0) (ov := 0) (v := 0) (e := 0)
  have d0 := oA.cell c0'
  have d2 := oA.cell c2
  have d3 := oA.cell c3'
  have dz : ∀ j, ((w.setCell ⟨kb, 0, none⟩ (.int .i32 1)).alloc (.cells #[.int .u32 0, .int .i32 0, .int .u32 0, .int .u32 0, .int .i64 0, .int .i64 0] 53)).frozen? ⟨kb, j, none⟩ = false := fun j => frm_frozen oA (by rw [zz]; exact l) (z0' j) (fun h => h)
  have dk := k1.kept oA (fun h => h)
  have df : Frm (fun k => k = kb) w ((w.setCell ⟨kb, 0, none⟩ (.int .i32 1)).alloc (.cells #[.int .u32 0, .int .i32 0, .int .u32 0, .int .u32 0, .int .i64 0, .int .i64 0] 53)) := Frm.trans f1 oA (fun _ _ h => h.elim)
  obtain ⟨w2, x2⟩ : ∃ w2, (w.setCell ⟨kb, 0, none⟩ (.int .i32 1)).alloc (.cells #[.int .u32 0, .int .i32 0, .int .u32 0, .int .u32 0, .int .i64 0, .int .i64 0] 53) = w2 := ⟨_, rfl⟩
  rw [x2] at out d0 d2 d3 dz dk df ⊢
  have ko := hid out
  have k0 := hid d0
  have k3 := hid d3
  have kz := hid dz
  have kk := hid dk
  have kf := hid df
  have kN := hid hN
  obtain ⟨s, hs⟩ : ∃ s, w.heap.size = s := ⟨_, rfl⟩
  have ks := hid hs
  rw [hs] at l lm ko ⊢
  clear x2 out d0 d3 dz dk df oA hn zz c0' z0' c3' c2 k1 f1 hl c0 z0 hs hN
  refine wp_region_noPanic ?_
  refine wp_region_held_drew (S := fun X => X.cell? ⟨kb, 2, none⟩ = some (.map (some mb))) (by kernel_rfl) (((Old.refl w2).drewN 1).cell d2) (fun hHeld => ?_)
  obtain ⟨W0, hW0⟩ : ∃ W0, w2.drew = W0 := ⟨_, rfl⟩
  have oW : Hid (Old w2 W0) := by rw [← hW0]; exact (Old.refl w2).drewN 1
  rw [hW0] at hHeld ⊢
  clear hW0 d2
  refine' wpAnyH_take (i := 0) rfl (by kernel_rfl) (by kernel_rfl) (by kernel_rfl) (fun _ _ _ h => h) (Or.inl ⟨by rfl, ?_⟩) hHeld ?_
  rotate_left
  · intro W hSw
    have hSv : W.cell? ⟨kb, 2, none⟩ = some (.map (some mb)) := hSw
    clear hSw
    skip
    simp only [List.getElem_toArray, List.getElem_cons_zero]
    go_simp
    all_goals with_reducible rfl
  simp only [List.getElem_toArray, List.getElem_cons_zero, Act.put, List.setIfInBounds_toArray, List.set_cons_zero, List.set_cons_succ]
  refine' wpAnyH_take (i := 1) rfl (by kernel_rfl) (by kernel_rfl) (by kernel_rfl) (fun _ _ _ h => h) (Or.inl ⟨by rfl, ?_⟩) hHeld ?_
  rotate_left
  · intro W hSw
    have hSv : W.cell? ⟨kb, 2, none⟩ = some (.map (some mb)) := hSw
    clear hSw
    skip
    simp only [List.getElem_toArray, List.getElem_cons_zero, List.getElem_cons_succ]
    go_simp
    all_goals with_reducible rfl
  simp only [List.getElem_toArray, List.getElem_cons_zero, List.getElem_cons_succ, Act.put, List.setIfInBounds_toArray, List.set_cons_zero, List.set_cons_succ]
  refine' wpAnyH_take (i := 2) rfl (by kernel_rfl) (by kernel_rfl) (by kernel_rfl) (fun _ _ _ h => h) (Or.inl ⟨by rfl, ?_⟩) hHeld ?_
  rotate_left
  · intro W hSw
    have hSv : W.cell? ⟨kb, 2, none⟩ = some (.map (some mb)) := hSw
    clear hSw
    skip
    simp only [List.getElem_toArray, List.getElem_cons_zero, List.getElem_cons_succ]
    go_simp
    all_goals with_reducible rfl
  simp only [List.getElem_toArray, List.getElem_cons_zero, List.getElem_cons_succ, Act.put, List.setIfInBounds_toArray, List.set_cons_zero, List.set_cons_succ]
  refine' wpAnyH_take (i := 3) rfl (by kernel_rfl) (by kernel_rfl) (by kernel_rfl) (fun _ _ _ h => h) (Or.inl ⟨by rfl, ?_⟩) hHeld ?_
  rotate_left
  · intro W hSw
    have hSv : W.cell? ⟨kb, 2, none⟩ = some (.map (some mb)) := hSw
    clear hSw
    skip
    simp only [List.getElem_toArray, List.getElem_cons_zero, List.getElem_cons_succ]
    go_simp
    all_goals with_reducible rfl
  simp only [List.getElem_toArray, List.getElem_cons_zero, List.getElem_cons_succ, Act.put, List.setIfInBounds_toArray, List.set_cons_zero, List.set_cons_succ]
  refine' wpAnyH_take (i := 4) rfl (by kernel_rfl) (by kernel_rfl) (by kernel_rfl) (fun _ _ _ h => h) (Or.inl ⟨by rfl, ?_⟩) hHeld ?_
  rotate_left
  · intro W hSw
    have hSv : W.cell? ⟨kb, 2, none⟩ = some (.map (some mb)) := hSw
    clear hSw
    skip
    simp only [List.getElem_toArray, List.getElem_cons_zero, List.getElem_cons_succ]
    go_simp
    all_goals with_reducible rfl
  simp only [List.getElem_toArray, List.getElem_cons_zero, List.getElem_cons_succ, Act.put, List.setIfInBounds_toArray, List.set_cons_zero, List.set_cons_succ]
  refine' wpAnyH_take (i := 6) rfl (by kernel_rfl) (by kernel_rfl) (by kernel_rfl) (fun _ _ _ h => h) (Or.inl ⟨by rfl, ?_⟩) hHeld ?_
  rotate_left
  · intro W hSw
    have hSv : W.cell? ⟨kb, 2, none⟩ = some (.map (some mb)) := hSw
    clear hSw
    skip
    simp only [List.getElem_toArray, List.getElem_cons_zero, List.getElem_cons_succ]
    go_simp
    all_goals with_reducible rfl
  simp only [List.getElem_toArray, List.getElem_cons_zero, List.getElem_cons_succ, Act.put, List.setIfInBounds_toArray, List.set_cons_zero, List.set_cons_succ]
  refine wpAnyH_ready (rs := [5]) (by kernel_rfl) (by simp) ?_
  refine AllReadyH.cons (o := _) rfl (fun K hK => ?_) AllReadyH.nil
  simp only [List.getElem_toArray, List.getElem_cons_zero, List.getElem_cons_succ]
  go_simp
  refine (clone_any x W0 hx).mono ?_
  rintro e' W1 ⟨rfl, o1⟩
  go_simp
  refine hK.out _ _ (o1.cell hHeld) (fun hHeld => ?_)
  have oX : Hid (Old w2 W1) := Old.trans oW.out o1
  clear hK K o1 oW
  try simp only [Act.put, List.setIfInBounds_toArray, List.set_cons_zero, List.set_cons_succ]
  refine wpAnyH_ready (rs := [7]) (by kernel_rfl) (by simp) ?_
  refine AllReadyH.cons (o := _) rfl (fun K hK => ?_) AllReadyH.nil
  simp only [List.getElem_toArray, List.getElem_cons_zero, List.getElem_cons_succ]
  obtain ⟨W3, hput, km3, fr3⟩ := (kk.out.kept oX.out (fun h => h)).put hx' hf s kN.out
  simp only [strV] at hput
  go_simp
  refine hK.out _ _ (frm_cell fr3 hHeld (by simp only; omega)) (fun hHeld => ?_)
  clear hK K
  try simp only [Act.put, List.setIfInBounds_toArray, List.set_cons_zero, List.set_cons_succ]
  refine wpAnyH_done (by kernel_rfl) ?_ _
  refine NoPanic.normal ?_
  have fX : Frm (fun k => k = mb) w2 W3 := Frm.trans (Frm.mono oX.out (fun _ _ h => h.elim)) fr3 (fun _ _ h => h)
  have g0 := frm_cell fX k0.out (by simp only; omega)
  have g3 := frm_cell fX k3.out (by simp only; omega)
  have gz : ∀ j, W3.frozen? ⟨kb, j, none⟩ = false := fun j => frm_frozen fX (show kb < w2.heap.size from World.block_lt_of_cell? w2 ⟨kb, 0, none⟩ k0.out) (kz.out j) ne
  have go := ko.out.frm fX (by omega)
  rw [← ks.out] at go km3 l lm
  go_wp2_with fail
  refine leaves_cons (f := 39) (args := #[.pointer (some ⟨kb, 0, none⟩)]) (by simp) (by simp [go_sem]) ?_
  refine (unlock_deferred ⟨kb, 0, none⟩ .returning _ g0 (gz 0)).mono ?_
  rintro e u' w'' ⟨rfl, rfl, rfl⟩
  have f4 := frm_set W3 kb 0 (.int .i32 0)
  refine ⟨_, results_tmp rfl _ _ _, by rw [ks.out]; rfl, ?_, ?_, ?_⟩
  · exact Frm.trans (Frm.trans (Frm.mono kf.out (fun _ _ h => Or.inl h)) fX (fun _ _ h => Or.inr h)) f4 (fun _ _ h => Or.inl h)
  · exact ⟨set_same g0, set_oth hHeld (by omega), set_oth g3 (by omega), set_fz gz, km3.kept f4 (fun e => ne e.symm)⟩
  · exact go.frm f4 (by omega)
end Go.Proofs.Ytkihcejhjmpijaa
