/- goesOn: walked. -/
import Derived.Test.YthibbenkibjghaaU1
namespace Go.Proofs.Ythibbenkibjghaa
open Go.RowKit Go.Lib Go.Shelf Go.Maps
attribute [local go_sem] Oper.semAt_some

/-- What an account tells, whatever is laid beside it. -/
structure TellsA (w : World) (ab : Nat) (B F H S x A : Int) : Prop where
  b : ∀ W, Old w W → Calls Try.prog 24 #[.pointer (some ⟨ab, 0, none⟩)] W fun e w' => e = .returned (.int .i64 B) ∧ w' = W
  f : ∀ W, Old w W → Calls Try.prog 21 #[.pointer (some ⟨ab, 0, none⟩)] W fun e w' => e = .returned (.int .i64 F) ∧ w' = W
  h : ∀ W, Old w W → Calls Try.prog 22 #[.pointer (some ⟨ab, 0, none⟩)] W fun e w' => e = .returned (.int .i64 H) ∧ w' = W
  s : ∀ W, Old w W → Calls Try.prog 23 #[.pointer (some ⟨ab, 0, none⟩)] W fun e w' => e = .returned (.int .i64 S) ∧ w' = W
  a : ∀ W, Old w W → Calls Try.prog 25 #[.pointer (some ⟨ab, 0, none⟩), .int .i64 x] W fun e w' => e = .returned (.int .i64 A) ∧ w' = W
theorem TellsA.of {w : World} {ab bi bm : Nat} {bud sp : Int} {R : List Hd} (h : Acc w ab bi bm bud sp R) (hb : OkA bud sp R) {x : Int} (hx : i64ok x) : TellsA w ab bud (bud - sp - sumR R) (sumR R) sp x (atR R x) :=
  ⟨fun W o => budget_any ab bi bm bud sp R W (h.old o), fun W o => free_any ab bi bm bud sp R W (h.old o) (by have := hb.bounds; omega), fun W o => held_any ab bi bm bud sp R W (h.old o), fun W o => spent_any ab bi bm bud sp R W (h.old o), fun W o => at_any ab bi bm bud sp R x hx W (h.old o)⟩
theorem TellsA.old {w w' : World} {ab : Nat} {B F H S x A : Int} (h : TellsA w ab B F H S x A) (o : Old w w') : TellsA w' ab B F H S x A :=
  ⟨fun W k => h.b W (o.trans k), fun W k => h.f W (o.trans k), fun W k => h.h W (o.trans k), fun W k => h.s W (o.trans k), fun W k => h.a W (o.trans k)⟩

set_option maxRecDepth 100000 in
set_option maxHeartbeats 4000000 in
theorem on_1 (ab : Nat) (kw kd kl kc f h sp b t v : Int) (w : World) (hb1 : -1152921504606846976 ≤ f ∧ f ≤ 1152921504606846976) (hb2 : -1152921504606846976 ≤ h ∧ h ≤ 1152921504606846976) (hb3 : -1152921504606846976 ≤ sp ∧ sp ≤ 1152921504606846976) (hb4 : -1152921504606846976 ≤ b ∧ b ≤ 1152921504606846976) (hb5 : -1152921504606846976 ≤ t ∧ t ≤ 1152921504606846976) (hb6 : -1152921504606846976 ≤ kc ∧ kc ≤ 1152921504606846976)
    (hT : TellsA w ab (b + kc) (f + kc) h sp kl t) :
    Calls Try.prog 28 #[.pointer (some ⟨ab, 0, none⟩), .agg #[.int .i64 1, .int .i64 kw, .int .i64 kd, .int .i64 kl, .int .i64 kc], .agg #[.int .i64 f, .int .i64 h, .int .i64 sp, .int .i64 b, .int .i64 t], .int .i64 v] w fun e w' => e = .returned (.bool true) ∧ Old w w' := by
  obtain ⟨hb1l, hb1u⟩ := hb1
  obtain ⟨hb2l, hb2u⟩ := hb2
  obtain ⟨hb3l, hb3u⟩ := hb3
  obtain ⟨hb4l, hb4u⟩ := hb4
  obtain ⟨hb5l, hb5u⟩ := hb5
  obtain ⟨hb6l, hb6u⟩ := hb6
  have ho : Old w ((w.alloc (.cells #[.int .i64 1, .int .i64 kw, .int .i64 kd, .int .i64 kl, .int .i64 kc] 41)).alloc (.cells #[.int .i64 f, .int .i64 h, .int .i64 sp, .int .i64 b, .int .i64 t] 58)) := ((Old.refl w).alloc _).alloc _
  have kT := hid (hT.old ho)
  have ko := hid ho
  have n1 : ∀ (i : Nat) (u : Value), #[Value.int .i64 1, .int .i64 kw, .int .i64 kd, .int .i64 kl, .int .i64 kc][i]? = some u → ((w.alloc (.cells #[.int .i64 1, .int .i64 kw, .int .i64 kd, .int .i64 kl, .int .i64 kc] 41)).alloc (.cells #[.int .i64 f, .int .i64 h, .int .i64 sp, .int .i64 b, .int .i64 t] 58)).cell? ⟨w.heap.size, i, none⟩ = some u := fun i u hu => ((Old.refl _).alloc _).cell (new_cell w #[.int .i64 1, .int .i64 kw, .int .i64 kd, .int .i64 kl, .int .i64 kc] 41 i u hu)
  have c0 := n1 0 _ rfl
  have c3 := n1 3 _ rfl
  have c4 := n1 4 _ rfl
  have n2 : ∀ (i : Nat) (u : Value), #[Value.int .i64 f, .int .i64 h, .int .i64 sp, .int .i64 b, .int .i64 t][i]? = some u → ((w.alloc (.cells #[.int .i64 1, .int .i64 kw, .int .i64 kd, .int .i64 kl, .int .i64 kc] 41)).alloc (.cells #[.int .i64 f, .int .i64 h, .int .i64 sp, .int .i64 b, .int .i64 t] 58)).cell? ⟨w.heap.size + 1, i, none⟩ = some u := fun i u hu => by
    have := new_cell (w.alloc (.cells #[.int .i64 1, .int .i64 kw, .int .i64 kd, .int .i64 kl, .int .i64 kc] 41)) #[.int .i64 f, .int .i64 h, .int .i64 sp, .int .i64 b, .int .i64 t] 58 i u hu
    rwa [alloc_size] at this
  have d0 := n2 0 _ rfl
  have d1 := n2 1 _ rfl
  have d2 := n2 2 _ rfl
  have d3 := n2 3 _ rfl
  have d4 := n2 4 _ rfl
  clear hT ho n1 n2
  go_enter Try.func28, Try.ntmps28
  go_wp2_with fail
  generalize (w.alloc (.cells #[.int .i64 1, .int .i64 kw, .int .i64 kd, .int .i64 kl, .int .i64 kc] 41)).alloc (.cells #[.int .i64 f, .int .i64 h, .int .i64 sp, .int .i64 b, .int .i64 t] 58) = W at *
  generalize w.heap.size = s0 at *
  go_quiet (fail)
  have ko2 := hid (ko.out.trans ((Old.refl W).drewN nq))
  have kT2 := hid (kT.out.old ((Old.refl W).drewN nq))
  have c0 := ((Old.refl W).drewN nq).cell c0
  have c3 := ((Old.refl W).drewN nq).cell c3
  have c4 := ((Old.refl W).drewN nq).cell c4
  generalize W.drewN nq = V at *
  clear ko kT d0 d1 d2 d3 d4
  have ww1 : wrap64 (f + t - kc) = f + t - kc := by unfold wrap64; omega
  have ww2 : wrap64 (h - t + kc) = h - t + kc := by unfold wrap64; omega
  have ww3 : wrap64 (f + t) = f + t := by unfold wrap64; omega
  have ww4 : wrap64 (h - t) = h - t := by unfold wrap64; omega
  have ww5 : wrap64 (f - kc) = f - kc := by unfold wrap64; omega
  have ww6 : wrap64 (sp + kc) = sp + kc := by unfold wrap64; omega
  have kB := hid (fun m => kT2.out.b (V.drewN m) ((Old.refl V).drewN m))
  have kF := hid (fun m => kT2.out.f (V.drewN m) ((Old.refl V).drewN m))
  have kH := hid (fun m => kT2.out.h (V.drewN m) ((Old.refl V).drewN m))
  have kS := hid (fun m => kT2.out.s (V.drewN m) ((Old.refl V).drewN m))
  have kA := hid (fun m => kT2.out.a (V.drewN m) ((Old.refl V).drewN m))
  clear kT2
  go_wp2_with fail
  go_quiet (first | exact Calls.quiet_of_same (kB.out _) | exact Calls.quiet_of_same (kF.out _) | exact Calls.quiet_of_same (kH.out _) | exact Calls.quiet_of_same (kS.out _) | exact Calls.quiet_of_same (kA.out _))
  go_wp2_with fail
  go_ret
  exact ⟨rfl, ko2.out.trans ((Old.refl V).drewN _)⟩
set_option maxRecDepth 100000 in
set_option maxHeartbeats 4000000 in
theorem on_2 (ab : Nat) (kw kd kl kc f h sp b t v : Int) (w : World) (hb1 : -1152921504606846976 ≤ f ∧ f ≤ 1152921504606846976) (hb2 : -1152921504606846976 ≤ h ∧ h ≤ 1152921504606846976) (hb3 : -1152921504606846976 ≤ sp ∧ sp ≤ 1152921504606846976) (hb4 : -1152921504606846976 ≤ b ∧ b ≤ 1152921504606846976) (hb5 : -1152921504606846976 ≤ t ∧ t ≤ 1152921504606846976) (hb6 : -1152921504606846976 ≤ kc ∧ kc ≤ 1152921504606846976)
    (hT : TellsA w ab b (f + t - kc) (h - t + kc) sp kl kc) :
    Calls Try.prog 28 #[.pointer (some ⟨ab, 0, none⟩), .agg #[.int .i64 2, .int .i64 kw, .int .i64 kd, .int .i64 kl, .int .i64 kc], .agg #[.int .i64 f, .int .i64 h, .int .i64 sp, .int .i64 b, .int .i64 t], .int .i64 v] w fun e w' => e = .returned (.bool true) ∧ Old w w' := by
  obtain ⟨hb1l, hb1u⟩ := hb1
  obtain ⟨hb2l, hb2u⟩ := hb2
  obtain ⟨hb3l, hb3u⟩ := hb3
  obtain ⟨hb4l, hb4u⟩ := hb4
  obtain ⟨hb5l, hb5u⟩ := hb5
  obtain ⟨hb6l, hb6u⟩ := hb6
  have ho : Old w ((w.alloc (.cells #[.int .i64 2, .int .i64 kw, .int .i64 kd, .int .i64 kl, .int .i64 kc] 41)).alloc (.cells #[.int .i64 f, .int .i64 h, .int .i64 sp, .int .i64 b, .int .i64 t] 58)) := ((Old.refl w).alloc _).alloc _
  have kT := hid (hT.old ho)
  have ko := hid ho
  have n1 : ∀ (i : Nat) (u : Value), #[Value.int .i64 2, .int .i64 kw, .int .i64 kd, .int .i64 kl, .int .i64 kc][i]? = some u → ((w.alloc (.cells #[.int .i64 2, .int .i64 kw, .int .i64 kd, .int .i64 kl, .int .i64 kc] 41)).alloc (.cells #[.int .i64 f, .int .i64 h, .int .i64 sp, .int .i64 b, .int .i64 t] 58)).cell? ⟨w.heap.size, i, none⟩ = some u := fun i u hu => ((Old.refl _).alloc _).cell (new_cell w #[.int .i64 2, .int .i64 kw, .int .i64 kd, .int .i64 kl, .int .i64 kc] 41 i u hu)
  have c0 := n1 0 _ rfl
  have c3 := n1 3 _ rfl
  have c4 := n1 4 _ rfl
  have n2 : ∀ (i : Nat) (u : Value), #[Value.int .i64 f, .int .i64 h, .int .i64 sp, .int .i64 b, .int .i64 t][i]? = some u → ((w.alloc (.cells #[.int .i64 2, .int .i64 kw, .int .i64 kd, .int .i64 kl, .int .i64 kc] 41)).alloc (.cells #[.int .i64 f, .int .i64 h, .int .i64 sp, .int .i64 b, .int .i64 t] 58)).cell? ⟨w.heap.size + 1, i, none⟩ = some u := fun i u hu => by
    have := new_cell (w.alloc (.cells #[.int .i64 2, .int .i64 kw, .int .i64 kd, .int .i64 kl, .int .i64 kc] 41)) #[.int .i64 f, .int .i64 h, .int .i64 sp, .int .i64 b, .int .i64 t] 58 i u hu
    rwa [alloc_size] at this
  have d0 := n2 0 _ rfl
  have d1 := n2 1 _ rfl
  have d2 := n2 2 _ rfl
  have d3 := n2 3 _ rfl
  have d4 := n2 4 _ rfl
  clear hT ho n1 n2
  go_enter Try.func28, Try.ntmps28
  go_wp2_with fail
  generalize (w.alloc (.cells #[.int .i64 2, .int .i64 kw, .int .i64 kd, .int .i64 kl, .int .i64 kc] 41)).alloc (.cells #[.int .i64 f, .int .i64 h, .int .i64 sp, .int .i64 b, .int .i64 t] 58) = W at *
  generalize w.heap.size = s0 at *
  go_quiet (fail)
  have ko2 := hid (ko.out.trans ((Old.refl W).drewN nq))
  have kT2 := hid (kT.out.old ((Old.refl W).drewN nq))
  have c0 := ((Old.refl W).drewN nq).cell c0
  have c3 := ((Old.refl W).drewN nq).cell c3
  have c4 := ((Old.refl W).drewN nq).cell c4
  generalize W.drewN nq = V at *
  clear ko kT d0 d1 d2 d3 d4
  have ww1 : wrap64 (f + t - kc) = f + t - kc := by unfold wrap64; omega
  have ww2 : wrap64 (h - t + kc) = h - t + kc := by unfold wrap64; omega
  have ww3 : wrap64 (f + t) = f + t := by unfold wrap64; omega
  have ww4 : wrap64 (h - t) = h - t := by unfold wrap64; omega
  have ww5 : wrap64 (f - kc) = f - kc := by unfold wrap64; omega
  have ww6 : wrap64 (sp + kc) = sp + kc := by unfold wrap64; omega
  have kB := hid (fun m => kT2.out.b (V.drewN m) ((Old.refl V).drewN m))
  have kF := hid (fun m => kT2.out.f (V.drewN m) ((Old.refl V).drewN m))
  have kH := hid (fun m => kT2.out.h (V.drewN m) ((Old.refl V).drewN m))
  have kS := hid (fun m => kT2.out.s (V.drewN m) ((Old.refl V).drewN m))
  have kA := hid (fun m => kT2.out.a (V.drewN m) ((Old.refl V).drewN m))
  clear kT2
  go_wp2_with fail
  go_quiet (first | exact Calls.quiet_of_same (kB.out _) | exact Calls.quiet_of_same (kF.out _) | exact Calls.quiet_of_same (kH.out _) | exact Calls.quiet_of_same (kS.out _) | exact Calls.quiet_of_same (kA.out _))
  go_wp2_with fail
  go_ret
  exact ⟨rfl, ko2.out.trans ((Old.refl V).drewN _)⟩
set_option maxRecDepth 100000 in
set_option maxHeartbeats 4000000 in
theorem on_4 (ab : Nat) (kw kd kl kc f h sp b t v : Int) (w : World) (hb1 : -1152921504606846976 ≤ f ∧ f ≤ 1152921504606846976) (hb2 : -1152921504606846976 ≤ h ∧ h ≤ 1152921504606846976) (hb3 : -1152921504606846976 ≤ sp ∧ sp ≤ 1152921504606846976) (hb4 : -1152921504606846976 ≤ b ∧ b ≤ 1152921504606846976) (hb5 : -1152921504606846976 ≤ t ∧ t ≤ 1152921504606846976) (hb6 : -1152921504606846976 ≤ kc ∧ kc ≤ 1152921504606846976)
    (hT : TellsA w ab b (f + t - kc) (h - t) (sp + kc) kl 0) :
    Calls Try.prog 28 #[.pointer (some ⟨ab, 0, none⟩), .agg #[.int .i64 4, .int .i64 kw, .int .i64 kd, .int .i64 kl, .int .i64 kc], .agg #[.int .i64 f, .int .i64 h, .int .i64 sp, .int .i64 b, .int .i64 t], .int .i64 v] w fun e w' => e = .returned (.bool true) ∧ Old w w' := by
  obtain ⟨hb1l, hb1u⟩ := hb1
  obtain ⟨hb2l, hb2u⟩ := hb2
  obtain ⟨hb3l, hb3u⟩ := hb3
  obtain ⟨hb4l, hb4u⟩ := hb4
  obtain ⟨hb5l, hb5u⟩ := hb5
  obtain ⟨hb6l, hb6u⟩ := hb6
  have ho : Old w ((w.alloc (.cells #[.int .i64 4, .int .i64 kw, .int .i64 kd, .int .i64 kl, .int .i64 kc] 41)).alloc (.cells #[.int .i64 f, .int .i64 h, .int .i64 sp, .int .i64 b, .int .i64 t] 58)) := ((Old.refl w).alloc _).alloc _
  have kT := hid (hT.old ho)
  have ko := hid ho
  have n1 : ∀ (i : Nat) (u : Value), #[Value.int .i64 4, .int .i64 kw, .int .i64 kd, .int .i64 kl, .int .i64 kc][i]? = some u → ((w.alloc (.cells #[.int .i64 4, .int .i64 kw, .int .i64 kd, .int .i64 kl, .int .i64 kc] 41)).alloc (.cells #[.int .i64 f, .int .i64 h, .int .i64 sp, .int .i64 b, .int .i64 t] 58)).cell? ⟨w.heap.size, i, none⟩ = some u := fun i u hu => ((Old.refl _).alloc _).cell (new_cell w #[.int .i64 4, .int .i64 kw, .int .i64 kd, .int .i64 kl, .int .i64 kc] 41 i u hu)
  have c0 := n1 0 _ rfl
  have c3 := n1 3 _ rfl
  have c4 := n1 4 _ rfl
  have n2 : ∀ (i : Nat) (u : Value), #[Value.int .i64 f, .int .i64 h, .int .i64 sp, .int .i64 b, .int .i64 t][i]? = some u → ((w.alloc (.cells #[.int .i64 4, .int .i64 kw, .int .i64 kd, .int .i64 kl, .int .i64 kc] 41)).alloc (.cells #[.int .i64 f, .int .i64 h, .int .i64 sp, .int .i64 b, .int .i64 t] 58)).cell? ⟨w.heap.size + 1, i, none⟩ = some u := fun i u hu => by
    have := new_cell (w.alloc (.cells #[.int .i64 4, .int .i64 kw, .int .i64 kd, .int .i64 kl, .int .i64 kc] 41)) #[.int .i64 f, .int .i64 h, .int .i64 sp, .int .i64 b, .int .i64 t] 58 i u hu
    rwa [alloc_size] at this
  have d0 := n2 0 _ rfl
  have d1 := n2 1 _ rfl
  have d2 := n2 2 _ rfl
  have d3 := n2 3 _ rfl
  have d4 := n2 4 _ rfl
  clear hT ho n1 n2
  go_enter Try.func28, Try.ntmps28
  go_wp2_with fail
  generalize (w.alloc (.cells #[.int .i64 4, .int .i64 kw, .int .i64 kd, .int .i64 kl, .int .i64 kc] 41)).alloc (.cells #[.int .i64 f, .int .i64 h, .int .i64 sp, .int .i64 b, .int .i64 t] 58) = W at *
  generalize w.heap.size = s0 at *
  go_quiet (fail)
  have ko2 := hid (ko.out.trans ((Old.refl W).drewN nq))
  have kT2 := hid (kT.out.old ((Old.refl W).drewN nq))
  have c0 := ((Old.refl W).drewN nq).cell c0
  have c3 := ((Old.refl W).drewN nq).cell c3
  have c4 := ((Old.refl W).drewN nq).cell c4
  generalize W.drewN nq = V at *
  clear ko kT d0 d1 d2 d3 d4
  have ww1 : wrap64 (f + t - kc) = f + t - kc := by unfold wrap64; omega
  have ww2 : wrap64 (h - t + kc) = h - t + kc := by unfold wrap64; omega
  have ww3 : wrap64 (f + t) = f + t := by unfold wrap64; omega
  have ww4 : wrap64 (h - t) = h - t := by unfold wrap64; omega
  have ww5 : wrap64 (f - kc) = f - kc := by unfold wrap64; omega
  have ww6 : wrap64 (sp + kc) = sp + kc := by unfold wrap64; omega
  have kB := hid (fun m => kT2.out.b (V.drewN m) ((Old.refl V).drewN m))
  have kF := hid (fun m => kT2.out.f (V.drewN m) ((Old.refl V).drewN m))
  have kH := hid (fun m => kT2.out.h (V.drewN m) ((Old.refl V).drewN m))
  have kS := hid (fun m => kT2.out.s (V.drewN m) ((Old.refl V).drewN m))
  have kA := hid (fun m => kT2.out.a (V.drewN m) ((Old.refl V).drewN m))
  clear kT2
  go_wp2_with fail
  go_quiet (first | exact Calls.quiet_of_same (kB.out _) | exact Calls.quiet_of_same (kF.out _) | exact Calls.quiet_of_same (kH.out _) | exact Calls.quiet_of_same (kS.out _) | exact Calls.quiet_of_same (kA.out _))
  go_wp2_with fail
  go_ret
  exact ⟨rfl, ko2.out.trans ((Old.refl V).drewN _)⟩
set_option maxRecDepth 100000 in
set_option maxHeartbeats 4000000 in
theorem on_5 (ab : Nat) (kw kd kl kc f h sp b t v : Int) (w : World) (hb1 : -1152921504606846976 ≤ f ∧ f ≤ 1152921504606846976) (hb2 : -1152921504606846976 ≤ h ∧ h ≤ 1152921504606846976) (hb3 : -1152921504606846976 ≤ sp ∧ sp ≤ 1152921504606846976) (hb4 : -1152921504606846976 ≤ b ∧ b ≤ 1152921504606846976) (hb5 : -1152921504606846976 ≤ t ∧ t ≤ 1152921504606846976) (hb6 : -1152921504606846976 ≤ kc ∧ kc ≤ 1152921504606846976)
    (hT : TellsA w ab b (f - kc) h (sp + kc) kl t) :
    Calls Try.prog 28 #[.pointer (some ⟨ab, 0, none⟩), .agg #[.int .i64 5, .int .i64 kw, .int .i64 kd, .int .i64 kl, .int .i64 kc], .agg #[.int .i64 f, .int .i64 h, .int .i64 sp, .int .i64 b, .int .i64 t], .int .i64 v] w fun e w' => e = .returned (.bool true) ∧ Old w w' := by
  obtain ⟨hb1l, hb1u⟩ := hb1
  obtain ⟨hb2l, hb2u⟩ := hb2
  obtain ⟨hb3l, hb3u⟩ := hb3
  obtain ⟨hb4l, hb4u⟩ := hb4
  obtain ⟨hb5l, hb5u⟩ := hb5
  obtain ⟨hb6l, hb6u⟩ := hb6
  have ho : Old w ((w.alloc (.cells #[.int .i64 5, .int .i64 kw, .int .i64 kd, .int .i64 kl, .int .i64 kc] 41)).alloc (.cells #[.int .i64 f, .int .i64 h, .int .i64 sp, .int .i64 b, .int .i64 t] 58)) := ((Old.refl w).alloc _).alloc _
  have kT := hid (hT.old ho)
  have ko := hid ho
  have n1 : ∀ (i : Nat) (u : Value), #[Value.int .i64 5, .int .i64 kw, .int .i64 kd, .int .i64 kl, .int .i64 kc][i]? = some u → ((w.alloc (.cells #[.int .i64 5, .int .i64 kw, .int .i64 kd, .int .i64 kl, .int .i64 kc] 41)).alloc (.cells #[.int .i64 f, .int .i64 h, .int .i64 sp, .int .i64 b, .int .i64 t] 58)).cell? ⟨w.heap.size, i, none⟩ = some u := fun i u hu => ((Old.refl _).alloc _).cell (new_cell w #[.int .i64 5, .int .i64 kw, .int .i64 kd, .int .i64 kl, .int .i64 kc] 41 i u hu)
  have c0 := n1 0 _ rfl
  have c3 := n1 3 _ rfl
  have c4 := n1 4 _ rfl
  have n2 : ∀ (i : Nat) (u : Value), #[Value.int .i64 f, .int .i64 h, .int .i64 sp, .int .i64 b, .int .i64 t][i]? = some u → ((w.alloc (.cells #[.int .i64 5, .int .i64 kw, .int .i64 kd, .int .i64 kl, .int .i64 kc] 41)).alloc (.cells #[.int .i64 f, .int .i64 h, .int .i64 sp, .int .i64 b, .int .i64 t] 58)).cell? ⟨w.heap.size + 1, i, none⟩ = some u := fun i u hu => by
    have := new_cell (w.alloc (.cells #[.int .i64 5, .int .i64 kw, .int .i64 kd, .int .i64 kl, .int .i64 kc] 41)) #[.int .i64 f, .int .i64 h, .int .i64 sp, .int .i64 b, .int .i64 t] 58 i u hu
    rwa [alloc_size] at this
  have d0 := n2 0 _ rfl
  have d1 := n2 1 _ rfl
  have d2 := n2 2 _ rfl
  have d3 := n2 3 _ rfl
  have d4 := n2 4 _ rfl
  clear hT ho n1 n2
  go_enter Try.func28, Try.ntmps28
  go_wp2_with fail
  generalize (w.alloc (.cells #[.int .i64 5, .int .i64 kw, .int .i64 kd, .int .i64 kl, .int .i64 kc] 41)).alloc (.cells #[.int .i64 f, .int .i64 h, .int .i64 sp, .int .i64 b, .int .i64 t] 58) = W at *
  generalize w.heap.size = s0 at *
  go_quiet (fail)
  have ko2 := hid (ko.out.trans ((Old.refl W).drewN nq))
  have kT2 := hid (kT.out.old ((Old.refl W).drewN nq))
  have c0 := ((Old.refl W).drewN nq).cell c0
  have c3 := ((Old.refl W).drewN nq).cell c3
  have c4 := ((Old.refl W).drewN nq).cell c4
  generalize W.drewN nq = V at *
  clear ko kT d0 d1 d2 d3 d4
  have ww1 : wrap64 (f + t - kc) = f + t - kc := by unfold wrap64; omega
  have ww2 : wrap64 (h - t + kc) = h - t + kc := by unfold wrap64; omega
  have ww3 : wrap64 (f + t) = f + t := by unfold wrap64; omega
  have ww4 : wrap64 (h - t) = h - t := by unfold wrap64; omega
  have ww5 : wrap64 (f - kc) = f - kc := by unfold wrap64; omega
  have ww6 : wrap64 (sp + kc) = sp + kc := by unfold wrap64; omega
  have kB := hid (fun m => kT2.out.b (V.drewN m) ((Old.refl V).drewN m))
  have kF := hid (fun m => kT2.out.f (V.drewN m) ((Old.refl V).drewN m))
  have kH := hid (fun m => kT2.out.h (V.drewN m) ((Old.refl V).drewN m))
  have kS := hid (fun m => kT2.out.s (V.drewN m) ((Old.refl V).drewN m))
  have kA := hid (fun m => kT2.out.a (V.drewN m) ((Old.refl V).drewN m))
  clear kT2
  go_wp2_with fail
  go_quiet (first | exact Calls.quiet_of_same (kB.out _) | exact Calls.quiet_of_same (kF.out _) | exact Calls.quiet_of_same (kH.out _) | exact Calls.quiet_of_same (kS.out _) | exact Calls.quiet_of_same (kA.out _))
  go_wp2_with fail
  go_ret
  exact ⟨rfl, ko2.out.trans ((Old.refl V).drewN _)⟩
set_option maxRecDepth 100000 in
set_option maxHeartbeats 4000000 in
theorem on_3 (ab : Nat) (kw kd kl kc f h sp b t : Int) (w : World) (hb1 : -1152921504606846976 ≤ f ∧ f ≤ 1152921504606846976) (hb2 : -1152921504606846976 ≤ h ∧ h ≤ 1152921504606846976) (hb3 : -1152921504606846976 ≤ sp ∧ sp ≤ 1152921504606846976) (hb4 : -1152921504606846976 ≤ b ∧ b ≤ 1152921504606846976) (hb5 : -1152921504606846976 ≤ t ∧ t ≤ 1152921504606846976)
    (hT : TellsA w ab b (f + t) (h - t) sp kl 0) :
    Calls Try.prog 28 #[.pointer (some ⟨ab, 0, none⟩), .agg #[.int .i64 3, .int .i64 kw, .int .i64 kd, .int .i64 kl, .int .i64 kc], .agg #[.int .i64 f, .int .i64 h, .int .i64 sp, .int .i64 b, .int .i64 t], .int .i64 t] w fun e w' => e = .returned (.bool true) ∧ Old w w' := by
  obtain ⟨hb1l, hb1u⟩ := hb1
  obtain ⟨hb2l, hb2u⟩ := hb2
  obtain ⟨hb3l, hb3u⟩ := hb3
  obtain ⟨hb4l, hb4u⟩ := hb4
  obtain ⟨hb5l, hb5u⟩ := hb5
  skip
  have ho : Old w ((w.alloc (.cells #[.int .i64 3, .int .i64 kw, .int .i64 kd, .int .i64 kl, .int .i64 kc] 41)).alloc (.cells #[.int .i64 f, .int .i64 h, .int .i64 sp, .int .i64 b, .int .i64 t] 58)) := ((Old.refl w).alloc _).alloc _
  have kT := hid (hT.old ho)
  have ko := hid ho
  have n1 : ∀ (i : Nat) (u : Value), #[Value.int .i64 3, .int .i64 kw, .int .i64 kd, .int .i64 kl, .int .i64 kc][i]? = some u → ((w.alloc (.cells #[.int .i64 3, .int .i64 kw, .int .i64 kd, .int .i64 kl, .int .i64 kc] 41)).alloc (.cells #[.int .i64 f, .int .i64 h, .int .i64 sp, .int .i64 b, .int .i64 t] 58)).cell? ⟨w.heap.size, i, none⟩ = some u := fun i u hu => ((Old.refl _).alloc _).cell (new_cell w #[.int .i64 3, .int .i64 kw, .int .i64 kd, .int .i64 kl, .int .i64 kc] 41 i u hu)
  have c0 := n1 0 _ rfl
  have c3 := n1 3 _ rfl
  have c4 := n1 4 _ rfl
  have n2 : ∀ (i : Nat) (u : Value), #[Value.int .i64 f, .int .i64 h, .int .i64 sp, .int .i64 b, .int .i64 t][i]? = some u → ((w.alloc (.cells #[.int .i64 3, .int .i64 kw, .int .i64 kd, .int .i64 kl, .int .i64 kc] 41)).alloc (.cells #[.int .i64 f, .int .i64 h, .int .i64 sp, .int .i64 b, .int .i64 t] 58)).cell? ⟨w.heap.size + 1, i, none⟩ = some u := fun i u hu => by
    have := new_cell (w.alloc (.cells #[.int .i64 3, .int .i64 kw, .int .i64 kd, .int .i64 kl, .int .i64 kc] 41)) #[.int .i64 f, .int .i64 h, .int .i64 sp, .int .i64 b, .int .i64 t] 58 i u hu
    rwa [alloc_size] at this
  have d0 := n2 0 _ rfl
  have d1 := n2 1 _ rfl
  have d2 := n2 2 _ rfl
  have d3 := n2 3 _ rfl
  have d4 := n2 4 _ rfl
  clear hT ho n1 n2
  go_enter Try.func28, Try.ntmps28
  go_wp2_with fail
  generalize (w.alloc (.cells #[.int .i64 3, .int .i64 kw, .int .i64 kd, .int .i64 kl, .int .i64 kc] 41)).alloc (.cells #[.int .i64 f, .int .i64 h, .int .i64 sp, .int .i64 b, .int .i64 t] 58) = W at *
  generalize w.heap.size = s0 at *
  go_quiet (fail)
  have ko2 := hid (ko.out.trans ((Old.refl W).drewN nq))
  have kT2 := hid (kT.out.old ((Old.refl W).drewN nq))
  have c0 := ((Old.refl W).drewN nq).cell c0
  have c3 := ((Old.refl W).drewN nq).cell c3
  have c4 := ((Old.refl W).drewN nq).cell c4
  generalize W.drewN nq = V at *
  clear ko kT d0 d1 d2 d3 d4
  go_wp2_with fail
  refine (kT2.out.a V (Old.refl V)).mono ?_
  rintro e w' ⟨rfl, e2⟩
  rw [e2]
  clear e2
  go_wp2_with fail
  refine (kT2.out.h V (Old.refl V)).mono ?_
  rintro e w' ⟨rfl, e2⟩
  rw [e2]
  clear e2
  go_wp2_with fail
  refine (kT2.out.f V (Old.refl V)).mono ?_
  rintro e w' ⟨rfl, e2⟩
  rw [e2]
  clear e2
  go_wp2_with fail
  refine (kT2.out.s V (Old.refl V)).mono ?_
  rintro e w' ⟨rfl, e2⟩
  rw [e2]
  clear e2
  go_wp2_with fail
  go_ret
  exact ⟨rfl, ko2.out⟩
set_option maxRecDepth 100000 in
set_option maxHeartbeats 4000000 in
theorem on_kk (ab : Nat) (kk : Int) (e1 : (kk == 1) = false) (e2 : (kk == 2) = false) (e3 : (kk == 3) = false) (e4 : (kk == 4) = false) (e5 : (kk == 5) = false) (kw kd kl kc f h sp b t v : Int) (w : World) (hb1 : -1152921504606846976 ≤ f ∧ f ≤ 1152921504606846976) (hb2 : -1152921504606846976 ≤ h ∧ h ≤ 1152921504606846976) (hb3 : -1152921504606846976 ≤ sp ∧ sp ≤ 1152921504606846976) (hb4 : -1152921504606846976 ≤ b ∧ b ≤ 1152921504606846976) (hb5 : -1152921504606846976 ≤ t ∧ t ≤ 1152921504606846976)
    (hT : TellsA w ab b f h sp kl t) :
    Calls Try.prog 28 #[.pointer (some ⟨ab, 0, none⟩), .agg #[.int .i64 kk, .int .i64 kw, .int .i64 kd, .int .i64 kl, .int .i64 kc], .agg #[.int .i64 f, .int .i64 h, .int .i64 sp, .int .i64 b, .int .i64 t], .int .i64 v] w fun e w' => e = .returned (.bool true) ∧ Old w w' := by
  obtain ⟨hb1l, hb1u⟩ := hb1
  obtain ⟨hb2l, hb2u⟩ := hb2
  obtain ⟨hb3l, hb3u⟩ := hb3
  obtain ⟨hb4l, hb4u⟩ := hb4
  obtain ⟨hb5l, hb5u⟩ := hb5
  skip
  have ho : Old w ((w.alloc (.cells #[.int .i64 kk, .int .i64 kw, .int .i64 kd, .int .i64 kl, .int .i64 kc] 41)).alloc (.cells #[.int .i64 f, .int .i64 h, .int .i64 sp, .int .i64 b, .int .i64 t] 58)) := ((Old.refl w).alloc _).alloc _
  have kT := hid (hT.old ho)
  have ko := hid ho
  have n1 : ∀ (i : Nat) (u : Value), #[Value.int .i64 kk, .int .i64 kw, .int .i64 kd, .int .i64 kl, .int .i64 kc][i]? = some u → ((w.alloc (.cells #[.int .i64 kk, .int .i64 kw, .int .i64 kd, .int .i64 kl, .int .i64 kc] 41)).alloc (.cells #[.int .i64 f, .int .i64 h, .int .i64 sp, .int .i64 b, .int .i64 t] 58)).cell? ⟨w.heap.size, i, none⟩ = some u := fun i u hu => ((Old.refl _).alloc _).cell (new_cell w #[.int .i64 kk, .int .i64 kw, .int .i64 kd, .int .i64 kl, .int .i64 kc] 41 i u hu)
  have c0 := n1 0 _ rfl
  have c3 := n1 3 _ rfl
  have c4 := n1 4 _ rfl
  have n2 : ∀ (i : Nat) (u : Value), #[Value.int .i64 f, .int .i64 h, .int .i64 sp, .int .i64 b, .int .i64 t][i]? = some u → ((w.alloc (.cells #[.int .i64 kk, .int .i64 kw, .int .i64 kd, .int .i64 kl, .int .i64 kc] 41)).alloc (.cells #[.int .i64 f, .int .i64 h, .int .i64 sp, .int .i64 b, .int .i64 t] 58)).cell? ⟨w.heap.size + 1, i, none⟩ = some u := fun i u hu => by
    have := new_cell (w.alloc (.cells #[.int .i64 kk, .int .i64 kw, .int .i64 kd, .int .i64 kl, .int .i64 kc] 41)) #[.int .i64 f, .int .i64 h, .int .i64 sp, .int .i64 b, .int .i64 t] 58 i u hu
    rwa [alloc_size] at this
  have d0 := n2 0 _ rfl
  have d1 := n2 1 _ rfl
  have d2 := n2 2 _ rfl
  have d3 := n2 3 _ rfl
  have d4 := n2 4 _ rfl
  clear hT ho n1 n2
  go_enter Try.func28, Try.ntmps28
  go_wp2_with fail
  generalize (w.alloc (.cells #[.int .i64 kk, .int .i64 kw, .int .i64 kd, .int .i64 kl, .int .i64 kc] 41)).alloc (.cells #[.int .i64 f, .int .i64 h, .int .i64 sp, .int .i64 b, .int .i64 t] 58) = W at *
  generalize w.heap.size = s0 at *
  go_quiet (fail)
  have ko2 := hid (ko.out.trans ((Old.refl W).drewN nq))
  have kT2 := hid (kT.out.old ((Old.refl W).drewN nq))
  have c0 := ((Old.refl W).drewN nq).cell c0
  have c3 := ((Old.refl W).drewN nq).cell c3
  have c4 := ((Old.refl W).drewN nq).cell c4
  generalize W.drewN nq = V at *
  clear ko kT d0 d1 d2 d3 d4
  go_wp2_with fail
  refine (kT2.out.f V (Old.refl V)).mono ?_
  rintro e w' ⟨rfl, e2⟩
  rw [e2]
  clear e2
  go_wp2_with fail
  refine (kT2.out.h V (Old.refl V)).mono ?_
  rintro e w' ⟨rfl, e2⟩
  rw [e2]
  clear e2
  go_wp2_with fail
  refine (kT2.out.s V (Old.refl V)).mono ?_
  rintro e w' ⟨rfl, e2⟩
  rw [e2]
  clear e2
  go_wp2_with fail
  refine (kT2.out.b V (Old.refl V)).mono ?_
  rintro e w' ⟨rfl, e2⟩
  rw [e2]
  clear e2
  go_wp2_with fail
  go_ret
  exact ⟨rfl, ko2.out⟩

/-- Where an account stands behind a step that was not refused, by what it told ahead of it. -/
theorem goesOn_any (ab bi bm : Nat) (bud sp : Int) (R : List Hd) (s : Stp) (hl : i64ok s.lot) (w : World) (hz : askZ bud sp R s = 0) (hb : OkA bud sp R) (h : Acc w ab bi bm (askB bud s) (askS bud sp R s) (askR bud sp R s)) :
    Calls Try.prog 28 #[.pointer (some ⟨ab, 0, none⟩), stpV s, .agg #[.int .i64 (bud - sp - sumR R), .int .i64 (sumR R), .int .i64 sp, .int .i64 bud, .int .i64 (atR R s.lot)], .int .i64 (askV R s)] w fun e w' => e = .returned (.bool true) ∧ Old w w' := by
  have hok2 := hb.ask s hl
  have hT := TellsA.of h hok2 hl
  have hbd := hb.bounds
  have hat := hb.at_b s.lot
  obtain ⟨kk, kw, kd, kl, kc⟩ := s
  unfold stpV
  dsimp only at *
  by_cases h1 : kk = 1
  · subst h1
    have hz' : briZ bud kc = 0 := hz
    obtain ⟨-, hc, -⟩ := refZ_zero (by decide) hz'
    have eB : askB bud ⟨1, kw, kd, kl, kc⟩ = bud + kc := by simp [askB, briB, hz']
    have eS : askS bud sp R ⟨1, kw, kd, kl, kc⟩ = sp := rfl
    have eR : askR bud sp R ⟨1, kw, kd, kl, kc⟩ = R := rfl
    rw [eB, eS, eR] at hT
    unfold cB at hc
    exact on_1 ab kw kd kl kc _ _ _ _ _ _ w (by omega) (by omega) (by omega) (by omega) (by omega) (by omega) (by rw [show bud - sp - sumR R + kc = bud + kc - sp - sumR R by omega]; exact hT)
  by_cases h2 : kk = 2
  · subst h2
    have hz' : holdZ bud sp R kl kc = 0 := hz
    obtain ⟨h0, hc, -⟩ := refZ_zero (by decide) hz'
    have eR : askR bud sp R ⟨2, kw, kd, kl, kc⟩ = insR R kl kc := by simp [askR, holdR, hz']
    have eB : askB bud ⟨2, kw, kd, kl, kc⟩ = bud := rfl
    have eS : askS bud sp R ⟨2, kw, kd, kl, kc⟩ = sp := rfl
    rw [eB, eS, eR, ins_sum hb.r, ins_at hb.r, if_pos rfl] at hT
    unfold cB at hc
    exact on_2 ab kw kd kl kc _ _ _ _ _ _ w (by omega) (by omega) (by omega) (by omega) (by omega) (by omega) (by rw [show bud - sp - sumR R + atR R kl - kc = bud - sp - (sumR R - atR R kl + kc) by omega]; exact hT)
  by_cases h3 : kk = 3
  · subst h3
    have hz' : relZ R kl = 0 := hz
    have eR : askR bud sp R ⟨3, kw, kd, kl, kc⟩ = insR R kl 0 := by simp [askR, relR, hz']
    have eB : askB bud ⟨3, kw, kd, kl, kc⟩ = bud := rfl
    have eS : askS bud sp R ⟨3, kw, kd, kl, kc⟩ = sp := rfl
    have eV : askV R ⟨3, kw, kd, kl, kc⟩ = atR R kl := by simp [askV, relV, hz']
    rw [eB, eS, eR, ins_sum hb.r, ins_at hb.r, if_pos rfl] at hT
    rw [eV]
    exact on_3 ab kw kd kl kc _ _ _ _ _ w (by omega) (by omega) (by omega) (by omega) (by omega) (by rw [Int.add_zero] at hT; rw [show bud - sp - sumR R + atR R kl = bud - sp - (sumR R - atR R kl) by omega]; exact hT)
  by_cases h4 : kk = 4
  · subst h4
    have hz' : payZ R kl kc = 0 := hz
    obtain ⟨h0, hc, -⟩ := refZ_zero (by decide) hz'
    have eR : askR bud sp R ⟨4, kw, kd, kl, kc⟩ = insR R kl 0 := by simp [askR, payR, hz']
    have eB : askB bud ⟨4, kw, kd, kl, kc⟩ = bud := rfl
    have eS : askS bud sp R ⟨4, kw, kd, kl, kc⟩ = sp + kc := by simp [askS, payS, hz']
    rw [eB, eS, eR, ins_sum hb.r, ins_at hb.r, if_pos rfl] at hT
    unfold cB at hc
    exact on_4 ab kw kd kl kc _ _ _ _ _ _ w (by omega) (by omega) (by omega) (by omega) (by omega) (by omega) (by rw [Int.add_zero] at hT; rw [show bud - sp - sumR R + atR R kl - kc = bud - (sp + kc) - (sumR R - atR R kl) by omega]; exact hT)
  by_cases h5 : kk = 5
  · subst h5
    have hz' : takZ bud sp R kc = 0 := hz
    obtain ⟨h0, hc, -⟩ := refZ_zero (by decide) hz'
    have eR : askR bud sp R ⟨5, kw, kd, kl, kc⟩ = R := rfl
    have eB : askB bud ⟨5, kw, kd, kl, kc⟩ = bud := rfl
    have eS : askS bud sp R ⟨5, kw, kd, kl, kc⟩ = sp + kc := by simp [askS, takS, hz']
    rw [eB, eS, eR] at hT
    unfold cB at hc
    exact on_5 ab kw kd kl kc _ _ _ _ _ _ w (by omega) (by omega) (by omega) (by omega) (by omega) (by omega) (by rw [show bud - sp - sumR R - kc = bud - (sp + kc) - sumR R by omega]; exact hT)
  have eR : askR bud sp R ⟨kk, kw, kd, kl, kc⟩ = R := by simp [askR, h2, h3, h4]
  have eB : askB bud ⟨kk, kw, kd, kl, kc⟩ = bud := by simp [askB, h1]
  have eS : askS bud sp R ⟨kk, kw, kd, kl, kc⟩ = sp := by simp [askS, h4, h5]
  rw [eB, eS, eR] at hT
  exact on_kk ab kk (by simpa using h1) (by simpa using h2) (by simpa using h3) (by simpa using h4) (by simpa using h5) kw kd kl kc _ _ _ _ _ _ w (by omega) (by omega) (by omega) (by omega) (by omega) hT
end Go.Proofs.Ythibbenkibjghaa
