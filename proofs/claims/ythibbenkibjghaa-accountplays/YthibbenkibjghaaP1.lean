/- Same with one that is not there; a remainder by three; what is told, by the program and by the document. -/
import Derived.Test.YthibbenkibjghaaN1
import Derived.Test.YthibbenkibjghaaD4
import Derived.Test.YthibbenkibjghaaU1
import Derived.Test.YthibbenkibjghaaK1
namespace Go.Proofs.Ythibbenkibjghaa
open Go.RowKit Go.Lib Go.Shelf Go.Maps
attribute [local go_sem] Oper.semAt_some

/-- A number's remainder by three, from nothing on. -/
def plc (n : Int) : Nat := if n.tmod 3 < 0 then (n.tmod 3 + 3).toNat else (n.tmod 3).toNat
theorem plc_tm (n : Int) : -2 ≤ n.tmod 3 ∧ n.tmod 3 ≤ 2 := by
  have h1 : n.tmod 3 < 3 := Int.tmod_lt_of_pos n (by omega)
  have h2 := Int.tmod_lt_of_pos (-n) (show (0 : Int) < 3 by omega)
  rw [Int.neg_tmod] at h2
  omega
theorem plc_lt (n : Int) : plc n < 3 := by
  have := plc_tm n
  unfold plc
  split <;> omega
set_option maxRecDepth 100000 in
theorem place_any (n : Int) (w : World) : Calls Try.prog 12 #[.int .i64 n] w fun e w' => e = .returned (.int .i64 (plc n : Nat)) ∧ w' = w := by
  obtain ⟨h1, h2⟩ := plc_tm n
  obtain ⟨k, hk⟩ : ∃ k, plc n = k := ⟨_, rfl⟩
  rw [hk]
  by_cases h : n.tmod 3 < 0
  · have hk1 : n.tmod 3 + 3 = (k : Int) := by
      rw [← hk]
      unfold plc
      rw [if_pos h]
      omega
    have kk := hid hk1
    clear hk hk1
    generalize hz : n.tmod 3 = z at *
    go_enter Try.func12, Try.ntmps12
    go_wp2_with fail
    go_ret
    exact ⟨by rw [← kk.out]; rfl, rfl⟩
  · have hk1 : n.tmod 3 = (k : Int) := by
      rw [← hk]
      unfold plc
      rw [if_neg h]
      omega
    have kk := hid hk1
    clear hk hk1
    generalize hz : n.tmod 3 = z at *
    go_enter Try.func12, Try.ntmps12
    go_wp2_with fail
    go_ret
    exact ⟨by rw [← kk.out]; rfl, rfl⟩

/-- What the program's account tells, whatever is laid beside it. -/
structure TP (w : World) (p : Option Addr) (B F H S x A : Int) : Prop where
  b : ∀ W, Old w W → Calls Try.prog 24 #[.pointer p] W fun e w' => e = .returned (.int .i64 B) ∧ w' = W
  f : ∀ W, Old w W → Calls Try.prog 21 #[.pointer p] W fun e w' => e = .returned (.int .i64 F) ∧ w' = W
  h : ∀ W, Old w W → Calls Try.prog 22 #[.pointer p] W fun e w' => e = .returned (.int .i64 H) ∧ w' = W
  s : ∀ W, Old w W → Calls Try.prog 23 #[.pointer p] W fun e w' => e = .returned (.int .i64 S) ∧ w' = W
  a : ∀ W, Old w W → Calls Try.prog 25 #[.pointer p, .int .i64 x] W fun e w' => e = .returned (.int .i64 A) ∧ w' = W
/-- What the document's tells. -/
structure TD (w : World) (q : Option Addr) (B F H S x A : Int) : Prop where
  c : (q = none ∧ B = 0 ∧ S = 0) ∨ ∃ rb, q = some ⟨rb, 0, none⟩ ∧ w.cell? ⟨rb, 0, none⟩ = some (.int .i64 B) ∧ w.cell? ⟨rb, 1, none⟩ = some (.int .i64 S)
  f : ∀ W, Old w W → Calls Try.prog 49 #[.pointer q] W fun e w' => e = .returned (.int .i64 F) ∧ Old W w'
  h : ∀ W, Old w W → Calls Try.prog 50 #[.pointer q] W fun e w' => e = .returned (.int .i64 H) ∧ w' = W
  a : ∀ W, Old w W → Calls Try.prog 51 #[.pointer q, .int .i64 x] W fun e w' => e = .returned (.int .i64 A) ∧ w' = W
theorem TP.of {w : World} {ab bi bm : Nat} {bud sp : Int} {R : List Hd} (h : Acc w ab bi bm bud sp R) (hb : OkA bud sp R) {x : Int} (hx : i64ok x) : TP w (some ⟨ab, 0, none⟩) bud (bud - sp - sumR R) (sumR R) sp x (atR R x) :=
  ⟨fun W o => budget_any ab bi bm bud sp R W (h.old o), fun W o => free_any ab bi bm bud sp R W (h.old o) (by have := hb.bounds; omega), fun W o => held_any ab bi bm bud sp R W (h.old o), fun W o => spent_any ab bi bm bud sp R W (h.old o), fun W o => at_any ab bi bm bud sp R x hx W (h.old o)⟩
theorem TP.nil (w : World) (x : Int) : TP w none 0 0 0 0 x 0 :=
  ⟨fun W _ => budget_no none W (NM.nil W), fun W _ => free_no none W (NM.nil W), fun W _ => held_no none W (NM.nil W), fun W _ => spent_no none W (NM.nil W), fun W _ => at_no none x W (NM.nil W)⟩
theorem TD.of {w : World} {rb : Nat} {bud sp : Int} {R : List Hd} (h : Rf w rb bud sp R) (hb : OkA bud sp R) (x : Int) : TD w (some ⟨rb, 0, none⟩) bud (bud - sp - sumR R) (sumR R) sp x (atR R x) := by
  obtain ⟨ao, cap, h⟩ := h
  exact ⟨.inr ⟨rb, rfl, h.cells.1, h.cells.2.1⟩, fun W o => rfree_any rb bud sp R ao cap W (h.old o) hb, fun W o => rall_any rb bud sp R ao cap W (h.old o) hb, fun W o => rat_any rb bud sp R ao cap x W (h.old o) hb.bounds.2.2.2.2.2.2⟩
theorem TD.nil (w : World) (x : Int) : TD w none 0 0 0 0 x 0 :=
  ⟨.inl ⟨rfl, rfl, rfl⟩, fun W _ => (rfree_nil W).mono fun _ _ ⟨h1, h2⟩ => ⟨h1, h2 ▸ Old.refl _⟩, fun W _ => rall_nil W, fun W _ => rat_nil x W⟩


set_option maxRecDepth 100000 in
set_option maxHeartbeats 4000000 in
theorem tells_any (p q : Option Addr) (B F H S x A : Int) (w : World) (hP : TP w p B F H S x A) (hD : TD w q B F H S x A) :
    Calls Try.prog 18 #[.pointer p, .pointer q, .int .i64 x] w fun e w' => e = .returned (.bool true) ∧ Old w w' := by
  have kP := hid hP
  have kD := hid hD
  clear hP hD
  rcases kD.out.c with ⟨rfl, rfl, rfl⟩ | ⟨rb, rfl, c0, c1⟩
  · go_enter Try.func18, Try.ntmps18
    go_wp2_with fail
    refine (kP.out.b _ (Old.refl w)).mono ?_
    rintro e w' ⟨rfl, e2⟩
    rw [e2]
    clear e2
    go_wp2_with fail
    refine (kP.out.s _ (Old.refl w)).mono ?_
    rintro e w' ⟨rfl, e2⟩
    rw [e2]
    clear e2
    go_wp2_with fail
    refine (kP.out.f _ (Old.refl w)).mono ?_
    rintro e w' ⟨rfl, e2⟩
    rw [e2]
    clear e2
    go_wp2_with fail
    refine (kD.out.f _ (Old.refl w)).mono ?_
    rintro e w2 ⟨rfl, o2⟩
    have ko := hid (((Old.refl w)).trans o2)
    clear o2
    go_wp2_with fail
    refine (kP.out.h _ ko.out).mono ?_
    rintro e w' ⟨rfl, e2⟩
    rw [e2]
    clear e2
    go_wp2_with fail
    refine (kD.out.h _ ko.out).mono ?_
    rintro e w' ⟨rfl, e2⟩
    rw [e2]
    clear e2
    go_wp2_with fail
    refine (kP.out.a _ ko.out).mono ?_
    rintro e w' ⟨rfl, e2⟩
    rw [e2]
    clear e2
    go_wp2_with fail
    refine (kD.out.a _ ko.out).mono ?_
    rintro e w' ⟨rfl, e2⟩
    rw [e2]
    clear e2
    go_wp2_with fail
    go_ret
    exact ⟨rfl, ko.out⟩
  · go_enter Try.func18, Try.ntmps18
    go_wp2_with fail
    go_quiet (fail)
    have ko1 : Hid (Old w (w.drewN nq)) := (Old.refl w).drewN nq
    generalize w.drewN nq = w1 at *
    go_wp2_with fail
    refine (kP.out.b _ ko1.out).mono ?_
    rintro e w' ⟨rfl, e2⟩
    rw [e2]
    clear e2
    go_wp2_with fail
    refine (kP.out.s _ ko1.out).mono ?_
    rintro e w' ⟨rfl, e2⟩
    rw [e2]
    clear e2
    go_wp2_with fail
    refine (kP.out.f _ ko1.out).mono ?_
    rintro e w' ⟨rfl, e2⟩
    rw [e2]
    clear e2
    go_wp2_with fail
    refine (kD.out.f _ ko1.out).mono ?_
    rintro e w2 ⟨rfl, o2⟩
    have ko := hid ((ko1.out).trans o2)
    clear o2
    go_wp2_with fail
    refine (kP.out.h _ ko.out).mono ?_
    rintro e w' ⟨rfl, e2⟩
    rw [e2]
    clear e2
    go_wp2_with fail
    refine (kD.out.h _ ko.out).mono ?_
    rintro e w' ⟨rfl, e2⟩
    rw [e2]
    clear e2
    go_wp2_with fail
    refine (kP.out.a _ ko.out).mono ?_
    rintro e w' ⟨rfl, e2⟩
    rw [e2]
    clear e2
    go_wp2_with fail
    refine (kD.out.a _ ko.out).mono ?_
    rintro e w' ⟨rfl, e2⟩
    rw [e2]
    clear e2
    go_wp2_with fail
    go_ret
    exact ⟨rfl, ko.out⟩
end Go.Proofs.Ythibbenkibjghaa
