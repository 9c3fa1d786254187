/- A bench that is refused; how an op begins. -/
import Derived.Test.YtpnnfkgnkalhlaaK35
namespace Go.Proofs.Ytpnnfkgnkalhlaa
open Go.RowKit Go.Lib Go.Maps

set_option maxRecDepth 100000 in
set_option maxHeartbeats 4000000 in
theorem bench_bad (mk gt ts n : Int) (w : World) (h : (n < 1 ∨ 64 < n) ∨ gt < 1 ∨ ts < 0) :
    Calls Try.prog 42 #[.agg #[.int .i64 mk, .int .i64 gt, .int .i64 ts], .int .i64 n] w fun e w' => e = .returned (.tuple #[.pointer none, .int .i64 2]) ∧ Old w w' := by
  by_cases hn : n < 1 ∨ 64 < n
  · have oA : Old w (w.alloc (.cells #[.int .i64 mk, .int .i64 gt, .int .i64 ts] 23)) := (Old.refl w).alloc _
    have nA := heap_new w (.cells #[.int .i64 mk, .int .i64 gt, .int .i64 ts] 23)
    have zA : (w.alloc (.cells #[.int .i64 mk, .int .i64 gt, .int .i64 ts] 23)).heap.size = w.heap.size + 1 := by simp only [World.alloc, Array.size_push]
    obtain ⟨w1, x1⟩ : ∃ w1, w.alloc (.cells #[.int .i64 mk, .int .i64 gt, .int .i64 ts] 23) = w1 := ⟨_, rfl⟩
    rw [x1] at oA nA zA
    have kx := hid x1
    have ko := hid oA
    have kn := hid nA
    have kz := hid zA
    clear x1 oA nA zA
    go_enter Try.func42, Try.ntmps42
    go_wp2_with fail
    rw [kx.out]
    clear kx
    refine (count_new_bad n w1 hn).mono ?_
    rintro e w2 ⟨rfl, e2⟩
    rw [e2]
    clear e2 w2
    go_wp2_with fail
    refine bodyPost_ret (v := .tuple #[.pointer none, .int .i64 2]) ?_ rfl ⟨rfl, ko.out⟩
    simp [results, Try.f42, go_sem]
  · obtain ⟨m, rfl⟩ : ∃ m : Nat, n = m := ⟨n.toNat, by omega⟩
    by_cases hg : gt < 1
    · have oA : Old w (w.alloc (.cells #[.int .i64 mk, .int .i64 gt, .int .i64 ts] 23)) := (Old.refl w).alloc _
      have nA := heap_new w (.cells #[.int .i64 mk, .int .i64 gt, .int .i64 ts] 23)
      have zA : (w.alloc (.cells #[.int .i64 mk, .int .i64 gt, .int .i64 ts] 23)).heap.size = w.heap.size + 1 := by simp only [World.alloc, Array.size_push]
      obtain ⟨w1, x1⟩ : ∃ w1, w.alloc (.cells #[.int .i64 mk, .int .i64 gt, .int .i64 ts] 23) = w1 := ⟨_, rfl⟩
      rw [x1] at oA nA zA
      have kx := hid x1
      have ko := hid oA
      have kn := hid nA
      have kz := hid zA
      clear x1 oA nA zA
      go_enter Try.func42, Try.ntmps42
      go_wp2_with fail
      rw [kx.out]
      clear kx
      refine (count_new m w1 (by omega) (by omega)).mono ?_
      rintro e w2 ⟨cm, cn, lb, sb, rfl, o2, _⟩
      have n2 := (o2.block w.heap.size (by have := kz.out; omega) (fun h => h)).trans kn.out
      obtain ⟨a0, a1, a2, _⟩ := three_cells n2
      obtain ⟨s, hs⟩ : ∃ s, w.heap.size = s := ⟨_, rfl⟩
      rw [hs] at a0 a1 a2 ⊢
      have ko2 := hid (Old.trans ko.out o2)
      clear n2 o2 kn kz ko
      go_wp2_with fail
      refine (gate_new_bad gt w2 hg).mono ?_
      rintro e w3 ⟨rfl, e3⟩
      rw [e3]
      clear e3 w3
      go_wp2_with fail
      refine bodyPost_ret (v := .tuple #[.pointer none, .int .i64 2]) ?_ rfl ⟨rfl, ko2.out⟩
      simp [results, Try.f42, go_sem]
    · have oA : Old w (w.alloc (.cells #[.int .i64 mk, .int .i64 gt, .int .i64 ts] 23)) := (Old.refl w).alloc _
      have nA := heap_new w (.cells #[.int .i64 mk, .int .i64 gt, .int .i64 ts] 23)
      have zA : (w.alloc (.cells #[.int .i64 mk, .int .i64 gt, .int .i64 ts] 23)).heap.size = w.heap.size + 1 := by simp only [World.alloc, Array.size_push]
      obtain ⟨w1, x1⟩ : ∃ w1, w.alloc (.cells #[.int .i64 mk, .int .i64 gt, .int .i64 ts] 23) = w1 := ⟨_, rfl⟩
      rw [x1] at oA nA zA
      have kx := hid x1
      have ko := hid oA
      have kn := hid nA
      have kz := hid zA
      clear x1 oA nA zA
      go_enter Try.func42, Try.ntmps42
      go_wp2_with fail
      rw [kx.out]
      clear kx
      refine (count_new m w1 (by omega) (by omega)).mono ?_
      rintro e w2 ⟨cm, cn, lb, sb, rfl, o2, _⟩
      have n2 := (o2.block w.heap.size (by have := kz.out; omega) (fun h => h)).trans kn.out
      obtain ⟨a0, a1, a2, _⟩ := three_cells n2
      obtain ⟨s, hs⟩ : ∃ s, w.heap.size = s := ⟨_, rfl⟩
      rw [hs] at a0 a1 a2 ⊢
      have ko2 := hid (Old.trans ko.out o2)
      clear n2 o2 kn kz ko
      go_wp2_with fail
      refine (gate_new gt w2 (by omega)).mono ?_
      rintro e w3 ⟨gm, gn, rfl, o3, _⟩
      have a2 := o3.cell a2
      have ko3 := hid (Old.trans ko2.out o3)
      clear o3 a0 a1 ko2
      go_wp2_with fail
      refine (tick_new_bad ts w3 (by omega)).mono ?_
      rintro e w4 ⟨rfl, e4⟩
      rw [e4]
      clear e4 w4
      go_wp2_with fail
      refine bodyPost_ret (v := .tuple #[.pointer none, .int .i64 2]) ?_ rfl ⟨rfl, ko3.out⟩
      simp [results, Try.f42, go_sem]

theorem fnv_some (g p : Nat) : fnV (some (g, p)) = .func (.func g) #[.pointer (some ⟨p, 0, none⟩)] #[] := rfl

set_option maxRecDepth 100000 in
set_option maxHeartbeats 4000000 in
/-- An op of a kind that there is: it begins as its deed tells. -/
theorem steps_some (bb dm g q wk : Nat) (kd x : Int) (F : Int → Option (Nat × Nat)) (w : World) (T : Value → Value → World → Prop) (h5 : w.cell? ⟨bb, 5, none⟩ = some (.map (some dm))) (hd : DeedM w dm 5 F) (hk : i64ok kd) (hF : F kd = some (g, q))
    (eg : ∀ args w, (callFunc g args).run Try.prog w = .ok (.enter g args) w)
    (hG : ∀ W, Old w W → Calls Try.prog g #[.pointer (some ⟨q, 0, none⟩), .int .i64 wk, .int .i64 x] W fun e W' => ∃ l p, e = .returned (.tuple #[l, p]) ∧ T l p W') :
    Calls Try.prog 44 #[.pointer (some ⟨bb, 0, none⟩), .int .i64 wk, .agg #[.int .i64 kd, .int .i64 x]] w fun e w' => ∃ l p, e = .returned (.tuple #[l, p]) ∧ T l p w' := by
  have oA : Old w (w.alloc (.cells #[.int .i64 kd, .int .i64 x] 57)) := (Old.refl w).alloc _
  have nA := heap_new w (.cells #[.int .i64 kd, .int .i64 x] 57)
  have a0 : (w.alloc (.cells #[.int .i64 kd, .int .i64 x] 57)).cell? ⟨w.heap.size, 0, none⟩ = some (.int .i64 kd) := by simp only [World.cell?, nA]; rfl
  have a1 : (w.alloc (.cells #[.int .i64 kd, .int .i64 x] 57)).cell? ⟨w.heap.size, 1, none⟩ = some (.int .i64 x) := by simp only [World.cell?, nA]; rfl
  have b5 := oA.cell h5
  have dA := hd.kept oA (fun h => h)
  obtain ⟨w1, x1⟩ : ∃ w1, w.alloc (.cells #[.int .i64 kd, .int .i64 x] 57) = w1 := ⟨_, rfl⟩
  rw [x1] at oA a0 a1 b5 dA
  have kx := hid x1
  have hl : ∀ m, (Instr.lookup 153 (.map (some dm)) (.int .i64 kd) true).run Try.prog (w1.drewN m) = .ok (.tuple #[.func (.func g) #[.pointer (some ⟨q, 0, none⟩)] #[], .bool true]) (w1.drewN m) := fun m => by
    have h := (dA.kept ((Old.refl w1).drewN m) (fun h => h)).look hk
    rw [hF] at h
    exact h
  have ko := hid oA
  have kG := hid hG
  clear hG hd dA h5 oA nA x1
  go_enter Try.func44, Try.ntmps44
  go_wp2_with fail
  rw [kx.out]
  clear kx
  generalize w.heap.size = s at *
  go_quiet (fail)
  have a1' := ((Old.refl w1).drewN nq).cell a1
  have ko2 := hid (Old.trans ko.out ((Old.refl w1).drewN nq))
  obtain ⟨w2, x2⟩ : ∃ w2, w1.drewN nq = w2 := ⟨_, rfl⟩
  rw [x2] at a1' ko2 ⊢
  clear x2 hl a0 a1 b5 ko
  go_wp2_with fail
  refine (kG.out _ ko2.out).mono ?_
  rintro e W' ⟨l, p, rfl, t⟩
  go_wp2_with fail
  refine bodyPost_ret (v := .tuple #[l, p]) ?_ rfl ⟨l, p, rfl, t⟩
  simp [results, Try.f44, go_sem]

set_option maxRecDepth 100000 in
set_option maxHeartbeats 4000000 in
/-- An op of no such kind: nothing is done, at once. -/
theorem steps_none (bb dm wk : Nat) (kd x : Int) (F : Int → Option (Nat × Nat)) (w : World) (h5 : w.cell? ⟨bb, 5, none⟩ = some (.map (some dm))) (hd : DeedM w dm 5 F) (hk : i64ok kd) (hF : F kd = none) :
    Calls Try.prog 44 #[.pointer (some ⟨bb, 0, none⟩), .int .i64 wk, .agg #[.int .i64 kd, .int .i64 x]] w fun e w' => ∃ bf, e = .returned (.tuple #[.func (.func 83) #[] #[.pointer (some ⟨bf, 0, none⟩)], .nilFunc]) ∧ Old w w' ∧ w.heap.size ≤ bf ∧ w'.cell? ⟨bf, 0, none⟩ = some (.func (.func 64) #[] #[]) := by
  have oA : Old w (w.alloc (.cells #[.int .i64 kd, .int .i64 x] 57)) := (Old.refl w).alloc _
  have nA := heap_new w (.cells #[.int .i64 kd, .int .i64 x] 57)
  have a0 : (w.alloc (.cells #[.int .i64 kd, .int .i64 x] 57)).cell? ⟨w.heap.size, 0, none⟩ = some (.int .i64 kd) := by simp only [World.cell?, nA]; rfl
  have a1 : (w.alloc (.cells #[.int .i64 kd, .int .i64 x] 57)).cell? ⟨w.heap.size, 1, none⟩ = some (.int .i64 x) := by simp only [World.cell?, nA]; rfl
  have b5 := oA.cell h5
  have dA := hd.kept oA (fun h => h)
  obtain ⟨w1, x1⟩ : ∃ w1, w.alloc (.cells #[.int .i64 kd, .int .i64 x] 57) = w1 := ⟨_, rfl⟩
  rw [x1] at oA a0 a1 b5 dA
  have kx := hid x1
  have hl : ∀ m, (Instr.lookup 153 (.map (some dm)) (.int .i64 kd) true).run Try.prog (w1.drewN m) = .ok (.tuple #[.nilFunc, .bool false]) (w1.drewN m) := fun m => by
    have h := (dA.kept ((Old.refl w1).drewN m) (fun h => h)).look hk
    rw [hF] at h
    exact h
  have ko := hid oA
  have kG := hid (fun W => at_once (.func (.func 64) #[] #[]) _ _ _ rfl W)
  skip
  clear hd dA h5 oA nA x1
  go_enter Try.func44, Try.ntmps44
  go_wp2_with fail
  rw [kx.out]
  clear kx
  obtain ⟨s, hs⟩ : ∃ s, w.heap.size = s := ⟨_, rfl⟩
  rw [hs] at a0 a1 ⊢
  go_quiet (fail)
  have ko2 := hid (Old.trans ko.out ((Old.refl w1).drewN nq))
  obtain ⟨w2, x2⟩ : ∃ w2, w1.drewN nq = w2 := ⟨_, rfl⟩
  rw [x2] at ko2 ⊢
  clear x2 hl a0 a1 b5 ko
  go_wp2_with fail
  refine (kG.out w2).mono ?_
  rintro e W' ⟨rfl, o3, ⟨t, h3⟩, z3⟩
  have k3 := hid (Old.trans ko2.out o3)
  have k4 := hid (cell_of h3)
  have k5 := hid (show w.heap.size ≤ w2.heap.size from ko2.out.size)
  clear o3 h3 z3
  go_wp2_with fail
  refine bodyPost_ret ?_ rfl ⟨w2.heap.size, rfl, k3.out, by have := k5.out; omega, k4.out⟩
  simp [results, Try.f44, go_sem]
end Go.Proofs.Ytpnnfkgnkalhlaa
