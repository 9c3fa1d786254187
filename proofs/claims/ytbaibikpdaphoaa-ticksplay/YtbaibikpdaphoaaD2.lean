/- Refusals; a new calendar; a number is set. -/
import Derived.Test.YtbaibikpdaphoaaD1
namespace Go.Proofs.Ytbaibikpdaphoaa
open Go.RowKit Go.Lib Go.Maps

/-- Why one may not be set. -/
def refE (now : Int) (d : Due) : Int := if tickB d.1 = true ∧ 0 ≤ d.2 then (if d.1 < now then 6 else 0) else 2

set_option maxRecDepth 100000 in
set_option maxHeartbeats 4000000 in
theorem refusal_bad (g : Nat) (now t n : Int) (w : World) (h0 : w.cell? ⟨g, 0, none⟩ = some (.int .i64 t)) (h1 : w.cell? ⟨g, 1, none⟩ = some (.int .i64 n)) (hb : tickB t = false ∨ (tickB t = true ∧ n < 0)) :
    Calls Try.prog 26 #[.int .i64 now, .slice (some ⟨g, 0, none⟩) 1 1] w fun e w' => e = .returned (.int .i64 2) ∧ Old w w' := by
  have kT := hid (fun w => isTick_any t w)
  have hl := World.block_lt_of_cell? w _ h0
  simp only at hl
  rcases hb with hb | ⟨hb, hb2⟩
  all_goals
    rw [hb] at kT
    go_enter Try.func26, Try.ntmps26
    go_wp2_with fail
    go_loopw [5, 10] (fun er s wr => s = .int .i64 0 ∧ wr = w) (fun _ s _ => 1 - (intOf s).toNat)
    case atStart => exact ⟨rfl, by trivial⟩
    case round =>
      obtain ⟨rfl, hwr⟩ := hrel
      obtain rfl := hwr.symm
      go_wp2_with fail
      refine (kT.out _).mono ?_
      rintro e w2 ⟨rfl, e2⟩
      rw [e2]
      clear e2 w2
      go_wp2
      go_ret
      exact ⟨rfl, (Old.refl w).alloc _⟩

set_option maxRecDepth 100000 in
set_option maxHeartbeats 4000000 in
theorem refusal_good (g : Nat) (now t n z : Int) (w : World) (h0 : w.cell? ⟨g, 0, none⟩ = some (.int .i64 t)) (h1 : w.cell? ⟨g, 1, none⟩ = some (.int .i64 n)) (hb : tickB t = true) (hn : 0 ≤ n) (hz : (t < now ∧ z = 6) ∨ (¬ t < now ∧ z = 0)) :
    Calls Try.prog 26 #[.int .i64 now, .slice (some ⟨g, 0, none⟩) 1 1] w fun e w' => e = .returned (.int .i64 z) ∧ Old w w' := by
  have kT := hid (fun w => isTick_any t w)
  have hl := World.block_lt_of_cell? w _ h0
  simp only at hl
  rw [hb] at kT
  have hd : decide (n < 0) = false := by simp; omega
  rcases hz with ⟨hz1, rfl⟩ | ⟨hz1, rfl⟩
  all_goals
    go_enter Try.func26, Try.ntmps26
    go_wp2_with fail
    go_loopw [5, 10] (fun er s wr => (s = .int .i64 0 ∧ er = .int .i64 0 ∧ wr = w) ∨ (s = .int .i64 1 ∧ er = .int .i64 (if t < now then 6 else 0) ∧ Old w wr)) (fun _ s _ => 1 - (intOf s).toNat)
    case atStart => exact Or.inl ⟨rfl, rfl, by trivial⟩
    case round =>
      rcases hrel with ⟨rfl, rfl, hwr⟩ | ⟨rfl, rfl, hwr⟩
      · obtain rfl := hwr.symm
        go_wp2_with fail
        refine (kT.out _).mono ?_
        rintro e w2 ⟨rfl, e2⟩
        rw [e2]
        clear e2 w2
        go_wp2_with fail
        go_roundw
        case rel => exact Or.inr ⟨by go_num, by first | rfl | simp [hz1], (Old.refl w).alloc _⟩
        case measure => simp [intOf]
      · have hw' := hid hwr
        clear hwr
        go_wp2_with fail
        go_ret
        exact ⟨by first | rfl | simp [hz1], hw'.out⟩

/-- One due held against now. -/
theorem refusal_any (g : Nat) (now : Int) (d : Due) (w : World) (h0 : w.cell? ⟨g, 0, none⟩ = some (.int .i64 d.1)) (h1 : w.cell? ⟨g, 1, none⟩ = some (.int .i64 d.2)) :
    Calls Try.prog 26 #[.int .i64 now, .slice (some ⟨g, 0, none⟩) 1 1] w fun e w' => e = .returned (.int .i64 (refE now d)) ∧ Old w w' := by
  unfold refE
  by_cases h : tickB d.1 = true ∧ 0 ≤ d.2
  · rw [if_pos h]
    by_cases hl : d.1 < now
    · rw [if_pos hl]
      exact refusal_good g now d.1 d.2 6 w h0 h1 h.1 h.2 (Or.inl ⟨hl, rfl⟩)
    · rw [if_neg hl]
      exact refusal_good g now d.1 d.2 0 w h0 h1 h.1 h.2 (Or.inr ⟨hl, rfl⟩)
  · rw [if_neg h]
    refine refusal_bad g now d.1 d.2 w h0 h1 ?_
    cases hb : tickB d.1
    · exact Or.inl rfl
    · refine Or.inr ⟨rfl, ?_⟩
      rcases Int.lt_or_le d.2 0 with h2 | h2
      · exact h2
      · exact absurd ⟨hb, h2⟩ h

set_option maxRecDepth 100000 in
set_option maxHeartbeats 4000000 in
theorem refusal_none (now : Int) (w : World) : Calls Try.prog 26 #[.int .i64 now, .slice none 0 0] w fun e w' => e = .returned (.int .i64 0) ∧ w' = w := by
  go_enter Try.func26, Try.ntmps26
  go_wp2_with fail
  go_loopw [5, 10] (fun er s wr => s = .int .i64 0 ∧ er = .int .i64 0 ∧ wr = w) (fun _ _ _ => 0)
  case atStart => exact ⟨rfl, rfl, by trivial⟩
  case round =>
    obtain ⟨rfl, rfl, hwr⟩ := hrel
    obtain rfl := hwr.symm
    go_wp2
    go_ret
    exact ⟨rfl, rfl⟩

theorem cal_new (w : World) (now : Int) : Cal ((w.alloc (.map #[] 0)).alloc (.cells #[.int .i64 now, .slice none 0 0, .map (some w.heap.size)] 78)) (w.heap.size + 1) w.heap.size (.slice none 0 0) now [] (fun _ => none) := by
  have h1 := heap_new (w.alloc (.map #[] 0)) (.cells #[.int .i64 now, .slice none 0 0, .map (some w.heap.size)] 78)
  rw [alloc_size] at h1
  refine ⟨h1, Or.inl ⟨rfl, rfl⟩, (PM.made w).kept ((Old.refl _).alloc _) (fun h => h), ⟨fun i hi => by simp at hi, fun _ h => absurd rfl h⟩, isHeap_nil, by simp [ND], fun x hx => by simp at hx⟩

/-- What a new calendar's call leaves. -/
def NewC (now : Int) (w : World) (e : Ending) (w' : World) : Prop := ∃ bc bm P, e = .returned (.pointer (some ⟨bc, 0, none⟩)) ∧ Cal w' bc bm (.slice none 0 0) now [] P ∧ Old w w' ∧ w.heap.size ≤ bc ∧ w.heap.size ≤ bm
def NewT (now : Int) (w : World) (e : Ending) (w' : World) : Prop := ∃ bt F, e = .returned (.tuple #[.pointer (some ⟨bt, 0, none⟩), .int .i64 0]) ∧ TkS w' bt F now [] ∧ Old w w' ∧ (∀ k, F k → w.heap.size ≤ k ∧ k < w'.heap.size)

set_option maxRecDepth 100000 in
set_option maxHeartbeats 4000000 in
theorem newCal_any (now : Int) (w : World) : Calls Try.prog 27 #[.int .i64 now] w fun e w' => NewC now w e w' := by
  have hC := hid (cal_new w now)
  have hmk : (Instr.makeMap 76 none).run Try.prog w = .ok (.map (some w.heap.size)) (w.alloc (.map #[] 0)) := by rfl
  go_enter Try.func27, Try.ntmps27
  go_wp2
  go_ret
  exact ⟨_, _, _, rfl, hC.out, ((Old.refl w).alloc _).alloc _, by omega, by omega⟩

theorem top_new {w : World} {bc bm : Nat} {v : Value} {now : Int} {G : List Due} {P : Int → Option Nat} {R : List Due} (h : Cal w bc bm v now G P) (hp : G.Perm R) (hs : Srt R) :
    Tk (w.alloc (.cells #[.pointer (some ⟨bc, 0, none⟩)] 67)) w.heap.size (fun k => k = w.heap.size ∨ k = bc ∨ k = bm ∨ v.ownBlock = some k) now R bc bm v G P := by
  have h1 := h.lt
  have h2 := h.map.lt
  refine ⟨heap_new _ _, h.old ((Old.refl _).alloc _), hp, hs, Or.inl rfl, Or.inr (Or.inl rfl), Or.inr (Or.inr (Or.inl rfl)), fun k hk => Or.inr (Or.inr (Or.inr hk)), by omega, by omega, ?_⟩
  rcases h.sl with ⟨rfl, _⟩ | ⟨hb, cap, rfl, hr, _⟩
  · simp [Value.ownBlock]
  · have := hr.lt
    simp [Value.ownBlock]
    omega

set_option maxRecDepth 100000 in
set_option maxHeartbeats 4000000 in
theorem of_none (now : Int) (w : World) (hb : tickB now = true) : Calls Try.prog 9 #[.int .i64 now, .slice none 0 0] w fun e w' => NewT now w e w' := by
  have kT := hid (fun w => isTick_any now w)
  rw [hb] at kT
  have kR := hid (refusal_none now)
  have kN := hid (newCal_any now)
  go_enter Try.func9, Try.ntmps9
  go_wp2_with fail
  refine (kT.out _).mono ?_
  rintro e w2 ⟨rfl, e2⟩
  rw [e2]
  clear e2 w2
  go_wp2_with fail
  refine (kR.out _).mono ?_
  rintro e w2 ⟨rfl, e2⟩
  rw [e2]
  clear e2 w2
  go_wp2_with fail
  refine (kN.out _).mono ?_
  rintro e w2 ⟨bc, bm, P, rfl, hC, ho, g1, g2⟩
  have kC := hid hC
  have kO := hid ho
  clear hC ho
  go_wp2_with fail
  go_loopw [23] (fun s wr => s = .int .i64 0 ∧ wr = w2) (fun _ _ => 0)
  case atStart => exact ⟨rfl, by trivial⟩
  case round =>
    obtain ⟨rfl, hwr⟩ := hrel
    obtain rfl := hwr.symm
    go_wp2
    go_ret2
    have hl1 := kC.out.lt
    have hl2 := kC.out.map.lt
    have hs := kO.out.size
    refine ⟨_, _, rfl, ⟨_, _, _, _, _, top_new kC.out (List.Perm.refl _) (by simp [Srt])⟩, kO.out.alloc _, fun k hk => ?_⟩
    rw [alloc_size]
    rcases hk with h | h | h | h
    · omega
    · omega
    · omega
    · simp [Value.ownBlock] at h

set_option maxRecDepth 100000 in
set_option maxHeartbeats 4000000 in
theorem new_any (now : Int) (w : World) (hb : tickB now = true) : Calls Try.prog 8 #[.int .i64 now] w fun e w' => NewT now w e w' := by
  have kO := hid (fun w => of_none now w hb)
  go_enter Try.func8, Try.ntmps8
  go_wp2_with fail
  refine (kO.out _).mono ?_
  rintro e w2 ⟨bt, F, rfl, h1, h2, h3⟩
  have k1 := hid h1
  have k2 := hid h2
  have k3 := hid h3
  clear h1 h2 h3
  go_wp2
  go_ret2
  exact ⟨bt, F, rfl, k1.out, k2.out, k3.out⟩
end Go.Proofs.Ytbaibikpdaphoaa
