/- runs, the price at a tick, how long it takes to come down to some coins: the program's and the document's. -/
import Derived.Test.YtnhglckhkhmonaaF1
namespace Go.Proofs.Ytnhglckhkhmonaa
open Go.RowKit

theorem Old.look {W w1 : World} (h : Old W w1) : (∀ b o, b < W.heap.size → w1.cell? ⟨b, o, none⟩ = W.cell? ⟨b, o, none⟩) ∧ (∀ b o, b < W.heap.size → w1.frozen? ⟨b, o, none⟩ = W.frozen? ⟨b, o, none⟩) :=
  ⟨fun b o k => h.below.cell (p := ⟨b, o, none⟩) k, fun b o k => h.below.frozen (p := ⟨b, o, none⟩) k⟩

theorem old1 (w : World) (x : Obj) : Old w (w.alloc x) := (Old.refl w).alloc _
theorem old2 (w : World) (x y : Obj) : Old w ((w.alloc x).alloc y) := ((Old.refl w).alloc _).alloc _

/-- What is known of a lot that may be. -/
structure May (l : Lt) : Prop where
  o0 : 0 ≤ l.opens
  oc : l.opens < l.closes
  c1 : l.closes ≤ 1099511627776
  s1 : l.start ≤ 1099511627776
  f0 : 0 ≤ l.floor
  fs : l.floor ≤ l.start
  d0 : 0 ≤ l.fall
  d1 : l.fall ≤ 1099511627776

theorem may_of {l : Lt} (h : lotB l = true) : May l := by
  simp only [lotB, Bool.and_eq_true, cB_true, decide_eq_true_eq] at h
  obtain ⟨⟨⟨⟨⟨⟨⟨-, h1⟩, h2⟩, h3⟩, h4⟩, h5⟩, h6⟩, h7⟩ := h
  exact ⟨h1.1, h3, h2.2, h4.2, h5.1, h7, h6.1, h6.2⟩

/-- Does it run at the tick, unless it is sold? -/
def rnB (l : Lt) (t : Int) : Bool := decide (l.opens ≤ t ∧ t < l.closes)

theorem rn_true {l : Lt} {t : Int} : rnB l t = true ↔ l.opens ≤ t ∧ t < l.closes := by simp [rnB]
theorem rn_false {l : Lt} {t : Int} : rnB l t = false ↔ ¬ (l.opens ≤ t ∧ t < l.closes) := by simp [rnB]

set_option maxRecDepth 100000 in
set_option maxHeartbeats 4000000 in
theorem runs_any (l : Lt) (t : Int) (w : World) : Calls Try.prog 31 #[lotV l, .int .i64 t] w fun e w' => e = .returned (.bool (rnB l t)) ∧ Old w w' := by
  obtain ⟨kind, opens, closes, start, step, extend, last, floor, fall, count, rule⟩ := l
  cases h : rnB ⟨kind, opens, closes, start, step, extend, last, floor, fall, count, rule⟩ t
  · have h := rn_false.1 h
    dsimp only at h
    unfold lotV
    by_cases h1 : opens ≤ t
    · have h2 : closes ≤ t := by omega
      clear h
      go_enter Try.func31, Try.ntmps31
      go_wp2_with fail
      go_ret
      exact ⟨by simp; omega, old1 w _⟩
    · clear h
      go_enter Try.func31, Try.ntmps31
      go_wp2_with fail
      go_ret
      exact ⟨rfl, old1 w _⟩
  · obtain ⟨h1, h2⟩ := rn_true.1 h
    clear h
    dsimp only at h1 h2
    unfold lotV
    go_enter Try.func31, Try.ntmps31
    go_wp2_with fail
    go_ret
    exact ⟨rfl, old1 w _⟩

set_option maxRecDepth 100000 in
set_option maxHeartbeats 4000000 in
theorem rruns_any (l : Lt) (t : Int) (w : World) : Calls Try.prog 33 #[lotV l, .int .i64 t] w fun e w' => e = .returned (.bool (rnB l t)) ∧ Old w w' := by
  obtain ⟨kind, opens, closes, start, step, extend, last, floor, fall, count, rule⟩ := l
  cases h : rnB ⟨kind, opens, closes, start, step, extend, last, floor, fall, count, rule⟩ t
  · have h := rn_false.1 h
    dsimp only at h
    unfold lotV
    by_cases h1 : opens ≤ t
    · have h2 : closes ≤ t := by omega
      clear h
      go_enter Try.func33, Try.ntmps33
      go_wp2_with fail
      go_ret
      exact ⟨by simp; omega, old1 w _⟩
    · clear h
      go_enter Try.func33, Try.ntmps33
      go_wp2_with fail
      go_ret
      exact ⟨rfl, old1 w _⟩
  · obtain ⟨h1, h2⟩ := rn_true.1 h
    clear h
    dsimp only at h1 h2
    unfold lotV
    go_enter Try.func33, Try.ntmps33
    go_wp2_with fail
    go_ret
    exact ⟨rfl, old1 w _⟩

/-- The price at a tick. -/
def prZ (l : Lt) (t : Int) : Int := if l.fall > 0 ∧ t - l.opens > (l.start - l.floor) / l.fall then l.floor else l.start - l.fall * (t - l.opens)

theorem tdiv_nn {a b : Int} (ha : 0 ≤ a) : a.tdiv b = a / b := Int.tdiv_eq_ediv_of_nonneg ha

theorem div_le40 {a b : Int} (ha : 0 ≤ a) (hb : 0 < b) : 0 ≤ a / b ∧ a / b ≤ a := ⟨Int.ediv_nonneg ha (by omega), Int.ediv_le_self _ ha⟩

theorem mul_room {a b k : Int} (hb : 0 < b) (hk : k ≤ a / b) : b * k ≤ a := by
  have := Int.mul_ediv_add_emod a b
  have h2 := Int.emod_nonneg a (by omega : b ≠ 0)
  have h3 : b * k ≤ b * (a / b) := Int.mul_le_mul_of_nonneg_left hk (by omega)
  omega

theorem mul_over {a b k : Int} (hb : 0 < b) (hk : a / b < k) : a < b * k := by
  have := Int.mul_ediv_add_emod a b
  have h2 := Int.emod_lt_of_pos a hb
  have h3 : b * (a / b + 1) ≤ b * k := Int.mul_le_mul_of_nonneg_left (by omega) (by omega)
  rw [Int.mul_add] at h3
  omega

/-- The price is what is left, and at least the floor. -/
theorem pr_is {l : Lt} (h : May l) {t : Int} : prZ l t = max l.floor (l.start - l.fall * (t - l.opens)) := by
  have := h.fs
  unfold prZ
  split
  · next hc =>
    have := mul_over hc.1 hc.2
    omega
  · next hc =>
    by_cases hf : l.fall > 0
    · have := mul_room hf (show t - l.opens ≤ (l.start - l.floor) / l.fall by omega)
      omega
    · have hf : l.fall = 0 := by have := h.d0; omega
      rw [hf]
      omega

set_option maxRecDepth 100000 in
set_option maxHeartbeats 4000000 in
theorem priceAt_any (l : Lt) (t : Int) (w : World) (hm : May l) (h1 : l.opens ≤ t) (h2 : t < l.closes) : Calls Try.prog 32 #[lotV l, .int .i64 t] w fun e w' => e = .returned (.int .i64 (prZ l t)) ∧ Old w w' := by
  obtain ⟨o0, oc, c1, s1, f0, fs, d0, d1⟩ := hm
  have hz : Hid (prZ l t = if l.fall > 0 ∧ t - l.opens > (l.start - l.floor) / l.fall then l.floor else l.start - l.fall * (t - l.opens)) := hid rfl
  obtain ⟨z, hp⟩ : ∃ z, prZ l t = z := ⟨_, rfl⟩
  rw [hp] at hz ⊢
  clear hp
  obtain ⟨kind, opens, closes, start, step, extend, last, floor, fall, count, rule⟩ := l
  dsimp only at *
  unfold lotV
  by_cases a1 : fall > 0
  · have e0 := tdiv_nn (a := start - floor) (b := fall) (by omega)
    obtain ⟨e1, e2⟩ := div_le40 (a := start - floor) (b := fall) (by omega) a1
    by_cases a2 : t - opens > (start - floor) / fall
    · have hz2 : Hid (z = floor) := by show _ = _; rw [hz.out, if_pos ⟨a1, a2⟩]
      clear hz
      generalize hq : (start - floor) / fall = q at *
      clear hq
      go_enter Try.func32, Try.ntmps32
      go_wp2_with fail
      go_ret
      exact ⟨ret_i hz2.out.symm, old1 w _⟩
    · have hz2 : Hid (z = start - fall * (t - opens)) := by show _ = _; rw [hz.out, if_neg (fun h => a2 h.2)]
      have hr := mul_room a1 (show t - opens ≤ (start - floor) / fall by omega)
      have hr0 : 0 ≤ fall * (t - opens) := Int.mul_nonneg (by omega) (by omega)
      clear hz
      generalize hq : (start - floor) / fall = q at *
      clear hq
      generalize hq : fall * (t - opens) = u at *
      go_enter Try.func32, Try.ntmps32
      go_wp2_with fail
      go_ret
      exact ⟨ret_i hz2.out.symm, old1 w _⟩
  · obtain rfl : fall = 0 := by omega
    have hz2 : Hid (z = start) := by show _ = _; rw [hz.out, if_neg (fun h => a1 h.1)]; omega
    clear hz a1
    go_enter Try.func32, Try.ntmps32
    go_wp2_with fail
    go_ret
    refine ⟨ret_i ?_, old1 w _⟩
    rw [hz2.out]

set_option maxRecDepth 100000 in
set_option maxHeartbeats 4000000 in
theorem rprice_any (l : Lt) (t : Int) (w : World) (hm : May l) (h1 : l.opens ≤ t) (h2 : t < l.closes) : Calls Try.prog 34 #[lotV l, .int .i64 t] w fun e w' => e = .returned (.int .i64 (prZ l t)) ∧ Old w w' := by
  obtain ⟨o0, oc, c1, s1, f0, fs, d0, d1⟩ := hm
  have hz : Hid (prZ l t = if l.fall > 0 ∧ t - l.opens > (l.start - l.floor) / l.fall then l.floor else l.start - l.fall * (t - l.opens)) := hid rfl
  obtain ⟨z, hp⟩ : ∃ z, prZ l t = z := ⟨_, rfl⟩
  rw [hp] at hz ⊢
  clear hp
  obtain ⟨kind, opens, closes, start, step, extend, last, floor, fall, count, rule⟩ := l
  dsimp only at *
  unfold lotV
  by_cases a1 : fall > 0
  · have e0 := tdiv_nn (a := start - floor) (b := fall) (by omega)
    obtain ⟨e1, e2⟩ := div_le40 (a := start - floor) (b := fall) (by omega) a1
    by_cases a2 : t - opens > (start - floor) / fall
    · have hz2 : Hid (z = floor) := by show _ = _; rw [hz.out, if_pos ⟨a1, a2⟩]
      clear hz
      generalize hq : (start - floor) / fall = q at *
      clear hq
      go_enter Try.func34, Try.ntmps34
      go_wp2_with fail
      go_ret
      exact ⟨ret_i hz2.out.symm, old1 w _⟩
    · have hz2 : Hid (z = start - fall * (t - opens)) := by show _ = _; rw [hz.out, if_neg (fun h => a2 h.2)]
      have hr := mul_room a1 (show t - opens ≤ (start - floor) / fall by omega)
      have hr0 : 0 ≤ fall * (t - opens) := Int.mul_nonneg (by omega) (by omega)
      clear hz
      generalize hq : (start - floor) / fall = q at *
      clear hq
      generalize hq : fall * (t - opens) = u at *
      go_enter Try.func34, Try.ntmps34
      go_wp2_with fail
      go_ret
      exact ⟨ret_i hz2.out.symm, old1 w _⟩
  · obtain rfl : fall = 0 := by omega
    have hz2 : Hid (z = start) := by show _ = _; rw [hz.out, if_neg (fun h => a1 h.1)]; omega
    clear hz a1
    go_enter Try.func34, Try.ntmps34
    go_wp2_with fail
    go_ret
    refine ⟨ret_i ?_, old1 w _⟩
    rw [hz2.out]

/-- How many ticks it takes until the price is at most some coins; does it come down to them? -/
def waZ (l : Lt) (c : Int) : Int := if c ≥ l.start then 0 else if c < l.floor ∨ l.fall = 0 then 0 else (l.start - c - 1) / l.fall + 1
def waB (l : Lt) (c : Int) : Bool := decide (c ≥ l.start ∨ ¬ (c < l.floor ∨ l.fall = 0))

set_option maxRecDepth 100000 in
set_option maxHeartbeats 4000000 in
theorem waitFor_any (l : Lt) (c : Int) (w : World) (hm : May l) : Calls Try.prog 35 #[lotV l, .int .i64 c] w fun e w' => e = .returned (.tuple #[.int .i64 (waZ l c), .bool (waB l c)]) ∧ Old w w' := by
  obtain ⟨o0, oc, c1, s1, f0, fs, d0, d1⟩ := hm
  by_cases a1 : c ≥ l.start
  · rw [show waZ l c = 0 by simp [waZ, a1], show waB l c = true by simp [waB, a1]]
    obtain ⟨kind, opens, closes, start, step, extend, last, floor, fall, count, rule⟩ := l
    dsimp only at *
    unfold lotV
    go_enter Try.func35, Try.ntmps35
    go_wp2_with fail
    exact bodyPost_ret (v := (.tuple #[.int .i64 0, .bool true])) (by simp [results, Try.results35, go_sem]) rfl ⟨rfl, old1 w _⟩
  · by_cases a2 : c < l.floor
    · rw [show waZ l c = 0 by simp [waZ, a1, a2], show waB l c = false by simp [waB]; omega]
      obtain ⟨kind, opens, closes, start, step, extend, last, floor, fall, count, rule⟩ := l
      dsimp only at *
      unfold lotV
      go_enter Try.func35, Try.ntmps35
      go_wp2_with fail
      exact bodyPost_ret (v := (.tuple #[.int .i64 0, .bool false])) (by simp [results, Try.results35, go_sem]) rfl ⟨rfl, old1 w _⟩
    · by_cases a3 : l.fall = 0
      · rw [show waZ l c = 0 by simp [waZ, a1, a3], show waB l c = false by simp [waB, a3]; omega]
        obtain ⟨kind, opens, closes, start, step, extend, last, floor, fall, count, rule⟩ := l
        dsimp only at *
        subst a3
        unfold lotV
        go_enter Try.func35, Try.ntmps35
        go_wp2_with fail
        exact bodyPost_ret (v := (.tuple #[.int .i64 0, .bool false])) (by simp [results, Try.results35, go_sem]) rfl ⟨rfl, old1 w _⟩
      · rw [show waZ l c = (l.start - c - 1) / l.fall + 1 by simp [waZ, a1, a2, a3], show waB l c = true by simp [waB, a3]; omega]
        obtain ⟨kind, opens, closes, start, step, extend, last, floor, fall, count, rule⟩ := l
        dsimp only at *
        have a4 : (fall == 0) = false := by simpa using a3
        have a5 : fall > 0 := by omega
        have e0 := tdiv_nn (a := start - c - 1) (b := fall) (by omega)
        obtain ⟨e1, e2⟩ := div_le40 (a := start - c - 1) (b := fall) (by omega) a5
        generalize hq : (start - c - 1) / fall = q at *
        clear hq a3
        unfold lotV
        go_enter Try.func35, Try.ntmps35
        go_wp2_with fail
        exact bodyPost_ret (v := (.tuple #[.int .i64 (q + 1), .bool true])) (by simp [results, Try.results35, go_sem]) rfl ⟨rfl, old1 w _⟩

end Go.Proofs.Ytnhglckhkhmonaa
