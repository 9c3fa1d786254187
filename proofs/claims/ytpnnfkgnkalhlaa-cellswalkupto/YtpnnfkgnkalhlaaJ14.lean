/- The document's cells: what is looked at. -/
import Derived.Test.YtpnnfkgnkalhlaaK58
namespace Go.Proofs.Ytpnnfkgnkalhlaa
open Go.RowKit Go.Lib Go.Maps


/-- What was looked at, as the document has it. -/
def seenV (kd : Int) (q : Sn) : Value := if kd = 3 then .agg #[.bool true, .int .i64 (bestV q.2).2.1, .int .i64 (bestV q.2).1, .bool (bestV q.2).2.2] else .agg #[.bool true, .int .i64 q.1, .int .i64 0, .bool false]

theorem set_four {w : World} {s : Nat} {a b c d : Value} {t : TypeId} (a' b' c' d' : Value) (h : w.heap[s]? = some (.cells #[a, b, c, d] t (0, 0))) : ((((w.setCell ⟨s, 0, none⟩ a').setCell ⟨s, 1, none⟩ b').setCell ⟨s, 2, none⟩ c').setCell ⟨s, 3, none⟩ d').heap[s]? = some (.cells #[a', b', c', d'] t (0, 0)) ∧ Frm (fun k => k = s) w ((((w.setCell ⟨s, 0, none⟩ a').setCell ⟨s, 1, none⟩ b').setCell ⟨s, 2, none⟩ c').setCell ⟨s, 3, none⟩ d') := by
  refine ⟨by simp [World.setCell, Array.getElem?_modify, h], ?_⟩
  exact Frm.setCell (S := fun k => k = s) (Frm.setCell (S := fun k => k = s) (Frm.setCell (S := fun k => k = s) (Frm.setCell (S := fun k => k = s) (Frm.refl _ w) ⟨s, 0, none⟩ (Or.inr rfl) _) ⟨s, 1, none⟩ (Or.inr rfl) _) ⟨s, 2, none⟩ (Or.inr rfl) _) ⟨s, 3, none⟩ (Or.inr rfl) _
theorem four_cells {w : World} {s : Nat} {a b c d : Value} {t : TypeId} (h : w.heap[s]? = some (.cells #[a, b, c, d] t (0, 0))) : w.cell? ⟨s, 0, none⟩ = some a ∧ w.cell? ⟨s, 1, none⟩ = some b ∧ w.cell? ⟨s, 2, none⟩ = some c ∧ w.cell? ⟨s, 3, none⟩ = some d ∧ ∀ o, w.frozen? ⟨s, o, none⟩ = false :=
  ⟨by simp [World.cell?, h], by simp [World.cell?, h], by simp [World.cell?, h], by simp [World.cell?, h], fun o => by simp [World.frozen?, h]⟩

set_option maxRecDepth 100000 in
set_option maxHeartbeats 4000000 in
theorem dlook_any (db sb : Nat) (kd : Int) (s : St) (w : World) (h : DocX w db sb s) (hk : kd = 2 ∨ kd = 3 ∨ kd = 5) :
    Calls Try.prog 65 #[.pointer (some ⟨db, 0, none⟩), .int .i64 kd] w fun e w' => e = .returned (seenV kd (lookS s kd)) ∧ Old w w' := by
  rcases hk with rfl | rfl | rfl
  · have hv : Hid (seenV 2 (lookS s 2) = .agg #[.bool true, .int .i64 s.mr, .int .i64 0, .bool false]) := by simp [Hid, seenV, lookS]
    have oA : Old w (w.alloc (.cells #[.bool false, .int .i64 0, .int .i64 0, .bool false] 134)) := (Old.refl w).alloc _
    have nA := heap_new w (.cells #[.bool false, .int .i64 0, .int .i64 0, .bool false] 134)
    have hA := h.frm oA (fun h => h) (fun h => h)
    have ldw : Hid (db < w.heap.size) := by obtain ⟨c, t, hb⟩ := h.blk; exact (Array.getElem?_eq_some_iff.1 hb).1
    obtain ⟨c, q0, q1, q2, q3, q4, q5, q6, q7, q8, qz⟩ := hA.cells
    have ko := hid oA
    have kn := hid nA
    clear h hA oA nA qz q0 q5 q6 q8
    go_enter Try.func65, Try.ntmps65
    go_wp2_with fail
    refine bodyPost_ret (v := .agg #[.bool true, .int .i64 s.mr, .int .i64 0, .bool false]) ?_ rfl ⟨by rw [hv.out], (Old.refl w).alloc _⟩
    simp [results, Try.f65, go_sem]
  · have hv : Hid (seenV 3 (lookS s 3) = .agg #[.bool true, .int .i64 (bestV s.bs).2.1, .int .i64 (bestV s.bs).1, .bool (bestV s.bs).2.2]) := by simp [Hid, seenV, lookS]
    have oA : Old w (w.alloc (.cells #[.bool false, .int .i64 0, .int .i64 0, .bool false] 134)) := (Old.refl w).alloc _
    have nA := heap_new w (.cells #[.bool false, .int .i64 0, .int .i64 0, .bool false] 134)
    have hA := h.frm oA (fun h => h) (fun h => h)
    have ldw : Hid (db < w.heap.size) := by obtain ⟨c, t, hb⟩ := h.blk; exact (Array.getElem?_eq_some_iff.1 hb).1
    obtain ⟨c, q0, q1, q2, q3, q4, q5, q6, q7, q8, qz⟩ := hA.cells
    have ko := hid oA
    have kn := hid nA
    clear h hA oA nA qz q0 q5 q6 q8
    generalize (bestV s.bs).1 = b1 at *
    generalize (bestV s.bs).2.1 = b2 at *
    generalize (bestV s.bs).2.2 = b3 at *
    clear q1 q7
    go_enter Try.func65, Try.ntmps65
    go_wp2_with fail
    go_region
    go_wp2_with fail
    refine bodyPost_ret (v := .agg #[.bool true, .int .i64 b2, .int .i64 b1, .bool b3]) ?_ rfl ⟨by rw [hv.out], ((Old.refl w).alloc _).drewN 1⟩
    simp [results, Try.f65, go_sem]
  · have hv : Hid (seenV 5 (lookS s 5) = .agg #[.bool true, .int .i64 s.tk, .int .i64 0, .bool false]) := by simp [Hid, seenV, lookS]
    have oA : Old w (w.alloc (.cells #[.bool false, .int .i64 0, .int .i64 0, .bool false] 134)) := (Old.refl w).alloc _
    have nA := heap_new w (.cells #[.bool false, .int .i64 0, .int .i64 0, .bool false] 134)
    have hA := h.frm oA (fun h => h) (fun h => h)
    have ldw : Hid (db < w.heap.size) := by obtain ⟨c, t, hb⟩ := h.blk; exact (Array.getElem?_eq_some_iff.1 hb).1
    obtain ⟨c, q0, q1, q2, q3, q4, q5, q6, q7, q8, qz⟩ := hA.cells
    have ko := hid oA
    have kn := hid nA
    clear h hA oA nA qz q0 q5 q6 q8
    go_enter Try.func65, Try.ntmps65
    go_wp2_with fail
    refine bodyPost_ret (v := .agg #[.bool true, .int .i64 s.tk, .int .i64 0, .bool false]) ?_ rfl ⟨by rw [hv.out], (Old.refl w).alloc _⟩
    simp [results, Try.f65, go_sem]
end Go.Proofs.Ytpnnfkgnkalhlaa

/- The document's cells: whether there is nothing to be done. -/
namespace Go.Proofs.Ytpnnfkgnkalhlaa
open Go.RowKit Go.Lib Go.Maps

set_option maxRecDepth 100000 in
set_option maxHeartbeats 4000000 in
theorem didle2 (db wk : Nat) (x v : Int) (y : Bool) (w : World) (hy : decide (x ≤ v) = y) :
    Calls Try.prog 66 #[.pointer (some ⟨db, 0, none⟩), .int .i64 wk, .agg #[.int .i64 2, .int .i64 x], .agg #[.bool true, .int .i64 v, .int .i64 0, .bool false]] w fun e w' => e = .returned (.tuple #[.agg #[.int .i64 v, .bool false, .int .i64 0], .bool y]) ∧ Old w w' := by
  go_enter Try.func66, Try.ntmps66
  go_wp2_with fail
  go_region
  all_goals go_wp2_with fail
  all_goals
    refine bodyPost_ret (v := .tuple #[.agg #[.int .i64 v, .bool false, .int .i64 0], .bool y]) ?_ rfl ⟨rfl, ((((Old.refl w).alloc _).alloc _).alloc _).drewN 1⟩
    simp [results, Try.f66, go_sem]

set_option maxRecDepth 100000 in
set_option maxHeartbeats 4000000 in
theorem didle5 (db sb wk : Nat) (x : Int) (y : Bool) (s : St) (w : World) (h : DocX w db sb s) (hy : decide (s.ts ≤ s.tk) = y) :
    Calls Try.prog 66 #[.pointer (some ⟨db, 0, none⟩), .int .i64 wk, .agg #[.int .i64 5, .int .i64 x], .agg #[.bool true, .int .i64 s.tk, .int .i64 0, .bool false]] w fun e w' => e = .returned (.tuple #[.agg #[.int .i64 0, .bool false, .int .i64 0], .bool y]) ∧ Old w w' := by
  have oA : Old w (((w.alloc (.cells #[.int .i64 5, .int .i64 x] 57)).alloc (.cells #[.bool true, .int .i64 s.tk, .int .i64 0, .bool false] 134)).alloc (.cells #[.int .i64 0, .bool false, .int .i64 0] 52)) := (((Old.refl w).alloc _).alloc _).alloc _
  obtain ⟨c, q0, q1, q2, q3, q4, q5, q6, q7, q8, qz⟩ := (h.frm oA (fun h => h) (fun h => h)).cells
  have ldw : db < w.heap.size := by obtain ⟨c, t, hb⟩ := h.blk; exact (Array.getElem?_eq_some_iff.1 hb).1
  generalize s.tk = v at *
  generalize s.ts = u at *
  clear q0 q1 q2 q3 q4 q5 q6 q7 qz oA h
  go_enter Try.func66, Try.ntmps66
  go_wp2_with fail
  go_region
  all_goals go_wp2_with fail
  all_goals
    refine bodyPost_ret (v := .tuple #[.agg #[.int .i64 0, .bool false, .int .i64 0], .bool y]) ?_ rfl ⟨rfl, ((((Old.refl w).alloc _).alloc _).alloc _).drewN 1⟩
    simp [results, Try.f66, go_sem]

set_option maxRecDepth 100000 in
set_option maxHeartbeats 4000000 in
theorem didle3 (db wk : Nat) (x b1 b2 : Int) (b3 y : Bool) (w : World) (hy : (!b3 || decide (b2 < x) || (decide (x = b2) && decide ((wk : Int) < b1))) = !y) :
    Calls Try.prog 66 #[.pointer (some ⟨db, 0, none⟩), .int .i64 wk, .agg #[.int .i64 3, .int .i64 x], .agg #[.bool true, .int .i64 b2, .int .i64 b1, .bool b3]] w fun e w' => e = .returned (.tuple #[.agg #[.int .i64 x, .bool false, .int .i64 0], .bool y]) ∧ Old w w' := by
  have kO : Hid (Old w (((w.alloc (.cells #[.int .i64 3, .int .i64 x] 57)).alloc (.cells #[.bool true, .int .i64 b2, .int .i64 b1, .bool b3] 134)).alloc (.cells #[.int .i64 x, .bool false, .int .i64 0] 52))) := (((Old.refl w).alloc _).alloc _).alloc _
  cases b3
  · obtain rfl : y = false := by simpa using hy
    clear hy
    go_enter Try.func66, Try.ntmps66
    go_wp2_with fail
    refine bodyPost_ret (v := .tuple #[.agg #[.int .i64 x, .bool false, .int .i64 0], .bool false]) ?_ rfl ⟨rfl, kO.out⟩
    simp [results, Try.f66, go_sem]
  · by_cases h1 : b2 < x
    · obtain rfl : y = false := by simpa [h1] using hy
      have h1' : decide (b2 < x) = true := by simpa using h1
      clear hy
      go_enter Try.func66, Try.ntmps66
      go_wp2_with fail
      refine bodyPost_ret (v := .tuple #[.agg #[.int .i64 x, .bool false, .int .i64 0], .bool false]) ?_ rfl ⟨rfl, kO.out⟩
      simp [results, Try.f66, go_sem]
    · have h1' : decide (b2 < x) = false := by simpa using h1
      by_cases h2 : x = b2
      · subst h2
        have h2' : (x == x) = true := by simp
        by_cases h3 : (wk : Int) < b1
        · obtain rfl : y = false := by simpa [h3] using hy
          have h3' : decide ((wk : Int) < b1) = true := by simpa using h3
          clear hy
          go_enter Try.func66, Try.ntmps66
          go_wp2_with fail
          refine bodyPost_ret (v := .tuple #[.agg #[.int .i64 x, .bool false, .int .i64 0], .bool false]) ?_ rfl ⟨rfl, kO.out⟩
          simp [results, Try.f66, go_sem]
        · obtain rfl : y = true := by simpa [h3] using hy
          have h3' : decide ((wk : Int) < b1) = false := by simpa using h3
          clear hy
          go_enter Try.func66, Try.ntmps66
          go_wp2_with fail
          refine bodyPost_ret (v := .tuple #[.agg #[.int .i64 x, .bool false, .int .i64 0], .bool true]) ?_ rfl ⟨rfl, kO.out⟩
          simp [results, Try.f66, go_sem]
      · obtain rfl : y = true := by simpa [h1, h2] using hy
        have h2' : (x == b2) = false := by simpa using h2
        clear hy
        go_enter Try.func66, Try.ntmps66
        go_wp2_with fail
        refine bodyPost_ret (v := .tuple #[.agg #[.int .i64 x, .bool false, .int .i64 0], .bool true]) ?_ rfl ⟨rfl, kO.out⟩
        simp [results, Try.f66, go_sem]
end Go.Proofs.Ytpnnfkgnkalhlaa

/- The document's cells: a step. -/
namespace Go.Proofs.Ytpnnfkgnkalhlaa
open Go.RowKit Go.Lib Go.Maps

theorem didle_any (db sb wk : Nat) (kd x : Int) (s : St) (w : World) (h : DocX w db sb s) (hk : kd = 2 ∨ kd = 3 ∨ kd = 5) :
    Calls Try.prog 66 #[.pointer (some ⟨db, 0, none⟩), .int .i64 wk, .agg #[.int .i64 kd, .int .i64 x], seenV kd (lookS s kd)] w fun e w' => ∃ a y, e = .returned (.tuple #[.agg #[.int .i64 a, .bool false, .int .i64 0], .bool y]) ∧ idleS s wk kd x = (if y then some (a, false) else none) ∧ Old w w' := by
  rcases hk with rfl | rfl | rfl
  · have hv : seenV 2 (lookS s 2) = .agg #[.bool true, .int .i64 s.mr, .int .i64 0, .bool false] := by simp [seenV, lookS]
    rw [hv]
    refine (didle2 db wk x s.mr _ w rfl).mono ?_
    rintro e w' ⟨rfl, o⟩
    exact ⟨_, _, rfl, by simp [idleS], o⟩
  · have hv : seenV 3 (lookS s 3) = .agg #[.bool true, .int .i64 (bestV s.bs).2.1, .int .i64 (bestV s.bs).1, .bool (bestV s.bs).2.2] := by simp [seenV, lookS]
    rw [hv]
    refine (didle3 db wk x (bestV s.bs).1 (bestV s.bs).2.1 (bestV s.bs).2.2 (!takesIt wk x s.bs) w ?_).mono ?_
    · cases s.bs with
      | none => simp [bestV, takesIt]
      | some v => simp [bestV, takesIt, better]; rfl
    · rintro e w' ⟨rfl, o⟩
      refine ⟨_, _, rfl, ?_, o⟩
      cases hb : takesIt wk x s.bs <;> simp [idleS, hb]
  · have hv : seenV 5 (lookS s 5) = .agg #[.bool true, .int .i64 s.tk, .int .i64 0, .bool false] := by simp [seenV, lookS]
    rw [hv]
    refine (didle5 db sb wk x _ s w h rfl).mono ?_
    rintro e w' ⟨rfl, o⟩
    exact ⟨_, _, rfl, by simp [idleS], o⟩

/-- What a worker has looked at, or not. -/
def seenO (kd : Int) : Option Sn → Value
  | none => .agg #[.bool false, .int .i64 0, .int .i64 0, .bool false]
  | some q => seenV kd q
/-- It came of a look. -/
def LookF (kd : Int) (q : Sn) : Prop := if kd = 3 then q.1 = 0 else q.2 = none
theorem look_form (s : St) (kd : Int) : LookF kd (lookS s kd) := by
  unfold LookF lookS
  by_cases h : kd = 3
  · simp [h]
  · simp only [h, if_false]
    split <;> rfl
theorem bestV_inj {a b : Option (Int × Int)} (h : bestV a = bestV b) : a = b := by
  cases a with
  | none => cases b with
    | none => rfl
    | some v => simp [bestV] at h
  | some u => cases b with
    | none => simp [bestV] at h
    | some v =>
      simp [bestV] at h
      exact congrArg some (Prod.ext h.1 h.2)
end Go.Proofs.Ytpnnfkgnkalhlaa

/- The document's cells: a step of any op. -/
namespace Go.Proofs.Ytpnnfkgnkalhlaa
open Go.RowKit Go.Lib Go.Maps

/-- What a step tells. -/
def stepV (kd : Int) (R : St × Option Sn × Option (Int × Bool)) : Value := .tuple #[seenO kd R.2.1, (match R.2.2 with | some a => ans a.1 a.2 | none => ans 0 false), .bool R.2.2.isSome]

/-- Four boxes that are new. -/
theorem four_news (w : World) (o0 o1 o2 o3 : Obj) : (((((w.alloc o0).alloc o1).alloc o2).alloc o3).heap[w.heap.size]? = some o0 ∧ ((((w.alloc o0).alloc o1).alloc o2).alloc o3).heap[w.heap.size + 1]? = some o1 ∧ ((((w.alloc o0).alloc o1).alloc o2).alloc o3).heap[w.heap.size + 2]? = some o2 ∧ ((((w.alloc o0).alloc o1).alloc o2).alloc o3).heap[w.heap.size + 3]? = some o3) ∧ ((((w.alloc o0).alloc o1).alloc o2).alloc o3).heap.size = w.heap.size + 4 := by
  have e0 := heap_new w o0
  have e1 := heap_new (w.alloc o0) o1
  have e2 := heap_new ((w.alloc o0).alloc o1) o2
  have e3 := heap_new (((w.alloc o0).alloc o1).alloc o2) o3
  have z0 : (w.alloc o0).heap.size = w.heap.size + 1 := World.size_alloc _ _
  have z1 : ((w.alloc o0).alloc o1).heap.size = w.heap.size + 2 := by rw [World.size_alloc, z0]
  have z2 : (((w.alloc o0).alloc o1).alloc o2).heap.size = w.heap.size + 3 := by rw [World.size_alloc, z1]
  rw [z0] at e1
  rw [z1] at e2
  rw [z2] at e3
  refine ⟨⟨?_, ?_, ?_, e3⟩, by rw [World.size_alloc, z2]⟩
  · rw [Below.heap_alloc _ _ _ (by omega), Below.heap_alloc _ _ _ (by omega), Below.heap_alloc _ _ _ (by omega)]; exact e0
  · rw [Below.heap_alloc _ _ _ (by omega), Below.heap_alloc _ _ _ (by omega)]; exact e1
  · rw [Below.heap_alloc _ _ _ (by omega)]; exact e2

set_option maxRecDepth 100000 in
set_option maxHeartbeats 4000000 in
theorem dstep_once (db sb wk : Nat) (kd x : Int) (s : St) (M : Int) (w : World) (h : DocX w db sb s) (hk : wk < s.L.length) (hb : StB s M) (hM : M < 9223372036854775807) (hkd : ¬ (kd = 2 ∨ kd = 3 ∨ kd = 5)) :
    Calls Try.prog 47 #[.pointer (some ⟨db, 0, none⟩), .int .i64 wk, .agg #[.int .i64 kd, .int .i64 x], .agg #[.bool false, .int .i64 0, .int .i64 0, .bool false]] w fun e w' => e = .returned (stepV kd (stepS s wk kd x none)) ∧ Frm (fun q => q = db ∨ q = sb) w w' ∧ DocX w' db sb (stepS s wk kd x none).1 := by
  have hst : stepS s wk kd x none = ((wholeS s wk kd x).1, none, some (wholeS s wk kd x).2) := by simp [stepS, wholeS, hkd]
  rw [hst]
  have k2 : (kd != 2) = true := by simp; omega
  have k3 : (kd != 3) = true := by simp; omega
  have k5 : (kd != 5) = true := by simp; omega
  have oA : Old w ((((w.alloc (.cells #[.int .i64 kd, .int .i64 x] 57)).alloc (.cells #[.bool false, .int .i64 0, .int .i64 0, .bool false] 134)).alloc (.cells #[.bool false, .int .i64 0, .int .i64 0, .bool false] 134)).alloc (.cells #[.int .i64 0, .bool false, .int .i64 0] 52)) := ((((Old.refl w).alloc _).alloc _).alloc _).alloc _
  obtain ⟨⟨n0, n1, n2, n3⟩, zz⟩ := four_news w (.cells #[.int .i64 kd, .int .i64 x] 57) (.cells #[.bool false, .int .i64 0, .int .i64 0, .bool false] 134) (.cells #[.bool false, .int .i64 0, .int .i64 0, .bool false] 134) (.cells #[.int .i64 0, .bool false, .int .i64 0] 52)
  have kdo := hid (doc_do db sb wk kd x s M _ (h.frm oA (fun h => h) (fun h => h)) hk hb hM)
  have ko := hid oA
  have kn2 := hid n2
  have kn3 := hid n3
  have ldw : Hid (db < w.heap.size ∧ sb < w.heap.size) := ⟨by obtain ⟨c, t, hb⟩ := h.blk; exact (Array.getElem?_eq_some_iff.1 hb).1, (Array.getElem?_eq_some_iff.1 h.row.choose_spec).1⟩
  clear hst oA n0 n1 n2 n3 zz h hb hkd
  go_enter Try.func47, Try.ntmps47
  go_wp2_with fail
  refine kdo.out.mono ?_
  rintro e w5 ⟨rfl, f5, d5⟩
  obtain ⟨sz, hsz⟩ : ∃ sz, w.heap.size = sz := ⟨_, rfl⟩
  have ksz := hid hsz
  have ll := ldw.out
  rw [hsz] at kn2 kn3 ll ⊢
  have b2 : w5.heap[sz + 2]? = some (.cells #[.bool false, .int .i64 0, .int .i64 0, .bool false] 134 (0, 0)) := by
    rw [f5.block _ (Array.getElem?_eq_some_iff.1 kn2.out).1 (by omega)]
    exact kn2.out
  have b3 : w5.heap[sz + 3]? = some (.cells #[.int .i64 0, .bool false, .int .i64 0] 52 (0, 0)) := by
    rw [f5.block _ (Array.getElem?_eq_some_iff.1 kn3.out).1 (by omega)]
    exact kn3.out
  have ls2 : sz + 2 < w5.heap.size := (Array.getElem?_eq_some_iff.1 b2).1
  have ls3 : sz + 3 < w5.heap.size := (Array.getElem?_eq_some_iff.1 b3).1
  simp only [Nat.add_assoc, Nat.reduceAdd]
  obtain ⟨a1, ha1⟩ : ∃ a1, (wholeS s wk kd x).2.1 = a1 := ⟨_, rfl⟩
  obtain ⟨a2, ha2⟩ : ∃ a2, (wholeS s wk kd x).2.2 = a2 := ⟨_, rfl⟩
  have kv : Hid (stepV kd ((wholeS s wk kd x).1, none, some (wholeS s wk kd x).2) = .tuple #[.agg #[.bool false, .int .i64 0, .int .i64 0, .bool false], .agg #[.int .i64 a1, .bool a2, .int .i64 0], .bool true]) := by
    simp [Hid, stepV, seenO, ans, ha1, ha2]
  unfold ans
  rw [ha1, ha2]
  clear ha1 ha2
  obtain ⟨g0, g1, g2, g3, gz⟩ := four_cells b2
  have y0 := gz 0
  have y1 := gz 1
  have y2 := gz 2
  have y3 := gz 3
  obtain ⟨r1, r2⟩ := set_four (.bool false) (.int .i64 0) (.int .i64 0) (.bool false) b2
  have b3' := (r2.block (sz + 3) ls3 (by omega)).trans b3
  obtain ⟨p0, p1, p2, pz⟩ := three_cells b3'
  have v0 := pz 0
  have v1 := pz 1
  have v2 := pz 2
  obtain ⟨r3, r4⟩ := set_three (a' := .int .i64 a1) (b' := .bool a2) (c' := .int .i64 0) b3'
  have r5 := (r4.block (sz + 2) (Nat.lt_of_lt_of_le ls2 r2.size) (by omega)).trans r1
  have kr3 := hid r3
  have kr5 := hid r5
  have kf : Hid (Frm (fun q => q = sz + 2 ∨ q = sz + 3) w5 _) := Frm.trans (Frm.mono r2 (fun _ _ h => Or.inl h)) r4 (fun _ _ h => Or.inr h)
  have kd5 := hid d5
  have kf5 := hid f5
  clear b2 b3 gz r1 r2 b3' pz r3 r4 r5 d5 f5 ls2 ls3
  go_wp2_with fail
  generalize ((((((w5.setCell ⟨sz + 2, 0, none⟩ (.bool false)).setCell ⟨sz + 2, 1, none⟩ (.int .i64 0)).setCell ⟨sz + 2, 2, none⟩ (.int .i64 0)).setCell ⟨sz + 2, 3, none⟩ (.bool false)).setCell ⟨sz + 3, 0, none⟩ (.int .i64 a1)).setCell ⟨sz + 3, 1, none⟩ (.bool a2)).setCell ⟨sz + 3, 2, none⟩ (.int .i64 0) = X at *
  obtain ⟨s0, s1, s2, s3, -⟩ := four_cells kr5.out
  obtain ⟨t0, t1, t2, -⟩ := three_cells kr3.out
  have hll := ll
  refine bodyPost_ret (v := .tuple #[.agg #[.bool false, .int .i64 0, .int .i64 0, .bool false], .agg #[.int .i64 a1, .bool a2, .int .i64 0], .bool true]) ?_ rfl ⟨by rw [kv.out], ?_, ?_⟩
  · simp [results, Try.f47, go_sem, s0, s1, s2, s3, t0, t1, t2]
  · exact Frm.trans (Frm.trans (Frm.mono ko.out (fun _ _ h => h.elim)) kf5.out (fun _ _ h => h)) kf.out (fun i hi e => by have := ksz.out; omega)
  · exact kd5.out.frm kf.out (by omega) (by omega)
end Go.Proofs.Ytpnnfkgnkalhlaa
