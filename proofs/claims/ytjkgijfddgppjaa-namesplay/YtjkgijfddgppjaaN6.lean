/- Tables that are not there, and zero ones: the calls. -/
import Derived.Test.YtjkgijfddgppjaaN5
namespace Go.Proofs.Ytjkgijfddgppjaa
open Go.RowKit Go.Shelf Go.Maps

/-- No call has made it. -/
def NoT (w : World) (pv : Value) : Prop := ∀ W, Old w W → Calls Try.prog 43 #[pv] W fun e w' => e = .returned (.bool true) ∧ w' = W

theorem noT_nil (w : World) : NoT w (.pointer none) := fun W _ => none_nil W
theorem noT_zero {w : World} {b : Nat} (h : w.cell? ⟨b, 0, none⟩ = some (.pointer none)) : NoT w (.pointer (some ⟨b, 0, none⟩)) := fun W hW => none_zero b W (hW.cell h)
theorem NoT.old {w w' : World} {pv : Value} (h : NoT w pv) (ho : Old w w') : NoT w' pv := fun W hW => h W (ho.trans hW)

set_option maxRecDepth 100000 in
set_option maxHeartbeats 2000000 in
theorem add_nil (pv : Value) (w : World) (h : NoT w pv) (s : ByteArray) : Calls Try.prog 17 #[pv, .string s] w fun e w' => e = .returned (.tuple #[.int .i64 0, .int .i64 1]) ∧ w' = w := by
  have hk := hid h
  clear h
  go_enter Try.func17, Try.ntmps17
  go_wp2_with fail
  refine (hk.out _ (Old.refl _)).mono ?_
  rintro e w2 ⟨rfl, e2⟩
  rw [e2]
  clear e2 w2
  go_wp2
  go_ret2
  exact ⟨rfl, rfl⟩

set_option maxRecDepth 100000 in
set_option maxHeartbeats 2000000 in
theorem find_nil (pv : Value) (w : World) (h : NoT w pv) (s : ByteArray) : Calls Try.prog 20 #[pv, .string s] w fun e w' => e = .returned (.tuple #[.int .i64 0, .bool false]) ∧ w' = w := by
  have hk := hid h
  clear h
  go_enter Try.func20, Try.ntmps20
  go_wp2_with fail
  refine (hk.out _ (Old.refl _)).mono ?_
  rintro e w2 ⟨rfl, e2⟩
  rw [e2]
  clear e2 w2
  go_wp2
  go_ret2
  exact ⟨rfl, rfl⟩

set_option maxRecDepth 100000 in
set_option maxHeartbeats 2000000 in
theorem len_nil (pv : Value) (w : World) (h : NoT w pv) : Calls Try.prog 16 #[pv] w fun e w' => e = .returned (.int .i64 0) ∧ w' = w := by
  have hk := hid h
  clear h
  go_enter Try.func16, Try.ntmps16
  go_wp2_with fail
  refine (hk.out _ (Old.refl _)).mono ?_
  rintro e w2 ⟨rfl, e2⟩
  rw [e2]
  clear e2 w2
  go_wp2
  go_ret
  exact ⟨rfl, rfl⟩

set_option maxRecDepth 100000 in
set_option maxHeartbeats 2000000 in
theorem begins_nil (pv : Value) (w : World) (h : NoT w pv) (s : ByteArray) : Calls Try.prog 22 #[pv, .string s] w fun e w' => e = .returned (.slice none 0 0) ∧ w' = w := by
  have hk := hid h
  clear h
  go_enter Try.func22, Try.ntmps22
  go_wp2_with fail
  refine (hk.out _ (Old.refl _)).mono ?_
  rintro e w2 ⟨rfl, e2⟩
  rw [e2]
  clear e2 w2
  go_wp2
  go_ret
  exact ⟨rfl, rfl⟩

set_option maxRecDepth 100000 in
set_option maxHeartbeats 2000000 in
theorem copy_nil (pv : Value) (w : World) (h : NoT w pv) : Calls Try.prog 32 #[pv] w fun e w' => e = .returned (.pointer none) ∧ w' = w := by
  have hk := hid h
  clear h
  go_enter Try.func32, Try.ntmps32
  go_wp2_with fail
  refine (hk.out _ (Old.refl _)).mono ?_
  rintro e w2 ⟨rfl, e2⟩
  rw [e2]
  clear e2 w2
  go_wp2
  go_ret
  exact ⟨rfl, rfl⟩

set_option maxRecDepth 100000 in
set_option maxHeartbeats 2000000 in
theorem sorted_nil (pv : Value) (w : World) (h : NoT w pv) : Calls Try.prog 18 #[pv] w fun e w' => e = .returned (.slice none 0 0) ∧ w' = w := by
  have hk := hid (begins_nil pv w h ⟨#[]⟩)
  clear h
  go_enter Try.func18, Try.ntmps18
  go_wp2_with fail
  refine hk.out.mono ?_
  rintro e w2 ⟨rfl, e2⟩
  rw [e2]
  clear e2 w2
  go_wp2
  go_ret
  exact ⟨rfl, rfl⟩

set_option maxRecDepth 100000 in
set_option maxHeartbeats 2000000 in
theorem has_nil (pv : Value) (w : World) (h : NoT w pv) (n : Int) : Calls Try.prog 46 #[pv, .int .i64 n] w fun e w' => e = .returned (.bool false) ∧ w' = w := by
  have hk := hid (len_nil pv w h)
  clear h
  by_cases h0 : 0 ≤ n
  · have hd : decide (n < 0) = false := decide_eq_false (by omega)
    go_enter Try.func46, Try.ntmps46
    go_wp2_with fail
    refine hk.out.mono ?_
    rintro e w2 ⟨rfl, e2⟩
    rw [e2]
    clear e2 w2
    go_wp2
    go_ret
    exact ⟨rfl, rfl⟩
  · go_enter Try.func46, Try.ntmps46
    go_wp2
    go_ret
    exact ⟨rfl, rfl⟩

set_option maxRecDepth 100000 in
set_option maxHeartbeats 2000000 in
theorem name_nil (pv : Value) (w : World) (h : NoT w pv) (n : Int) : Calls Try.prog 19 #[pv, .int .i64 n] w fun e w' => e = .returned (.tuple #[.string ⟨#[]⟩, .bool false]) ∧ w' = w := by
  have hk := hid (has_nil pv w h n)
  clear h
  go_enter Try.func19, Try.ntmps19
  go_wp2_with fail
  refine hk.out.mono ?_
  rintro e w2 ⟨rfl, e2⟩
  rw [e2]
  clear e2 w2
  go_wp2
  go_ret2
  exact ⟨rfl, rfl⟩

set_option maxRecDepth 100000 in
set_option maxHeartbeats 2000000 in
theorem short_nil (pv : Value) (w : World) (h : NoT w pv) (n : Int) : Calls Try.prog 21 #[pv, .int .i64 n] w fun e w' => e = .returned (.tuple #[.int .i64 0, .bool false]) ∧ w' = w := by
  have hk := hid (has_nil pv w h n)
  clear h
  go_enter Try.func21, Try.ntmps21
  go_wp2_with fail
  refine hk.out.mono ?_
  rintro e w2 ⟨rfl, e2⟩
  rw [e2]
  clear e2 w2
  go_wp2
  go_ret2
  exact ⟨rfl, rfl⟩

set_option maxRecDepth 100000 in
set_option maxHeartbeats 2000000 in
theorem all_nil (pv : Value) (w : World) (h : NoT w pv) : Calls Try.prog 34 #[pv] w fun e w' => e = .returned (.func (.func 54) #[] #[.pointer (some ⟨w.heap.size, 0, none⟩)]) ∧ w' = w.alloc (.cells #[.slice none 0 0] 49) := by
  have hk := hid h
  clear h
  go_enter Try.func34, Try.ntmps34
  go_wp2_with fail
  refine (hk.out _ ((Old.refl _).alloc _)).mono ?_
  rintro e w2 ⟨rfl, e2⟩
  rw [e2]
  clear e2 w2
  go_wp2
  go_ret
  exact ⟨rfl, rfl⟩

set_option maxRecDepth 100000 in
set_option maxHeartbeats 2000000 in
theorem same_tt (a b : Value) (w : World) (ha : ∀ W, Old w W → Calls Try.prog 43 #[a] W fun e w' => e = .returned (.bool true) ∧ w' = W) (hb : ∀ W, Old w W → Calls Try.prog 43 #[b] W fun e w' => e = .returned (.bool true) ∧ w' = W) :
    Calls Try.prog 23 #[a, b] w fun e w' => e = .returned (.bool true) ∧ Old w w' := by
  have ka := hid ha
  have kb := hid hb
  clear ha hb
  go_enter Try.func23, Try.ntmps23
  go_wp2_with fail
  refine (ka.out _ ((Old.refl _).alloc _)).mono ?_
  rintro e w2 ⟨rfl, e2⟩
  rw [e2]
  clear e2 w2
  go_wp2_with fail
  refine (ka.out _ ((Old.refl _).alloc _)).mono ?_
  rintro e w2 ⟨rfl, e2⟩
  rw [e2]
  clear e2 w2
  go_wp2_with fail
  refine (kb.out _ ((Old.refl _).alloc _)).mono ?_
  rintro e w2 ⟨rfl, e2⟩
  rw [e2]
  clear e2 w2
  go_wp2_with fail
  refine bodyPost_ret (v := .bool true) ?_ rfl ⟨rfl, (Old.refl w).alloc _⟩
  simp [results, Try.f23, go_sem]

set_option maxRecDepth 100000 in
set_option maxHeartbeats 2000000 in
theorem same_tf (a b : Value) (w : World) (ha : ∀ W, Old w W → Calls Try.prog 43 #[a] W fun e w' => e = .returned (.bool true) ∧ w' = W) (hb : ∀ W, Old w W → Calls Try.prog 43 #[b] W fun e w' => e = .returned (.bool false) ∧ w' = W) :
    Calls Try.prog 23 #[a, b] w fun e w' => e = .returned (.bool false) ∧ Old w w' := by
  have ka := hid ha
  have kb := hid hb
  clear ha hb
  go_enter Try.func23, Try.ntmps23
  go_wp2_with fail
  refine (ka.out _ ((Old.refl _).alloc _)).mono ?_
  rintro e w2 ⟨rfl, e2⟩
  rw [e2]
  clear e2 w2
  go_wp2_with fail
  refine (ka.out _ ((Old.refl _).alloc _)).mono ?_
  rintro e w2 ⟨rfl, e2⟩
  rw [e2]
  clear e2 w2
  go_wp2_with fail
  refine (kb.out _ ((Old.refl _).alloc _)).mono ?_
  rintro e w2 ⟨rfl, e2⟩
  rw [e2]
  clear e2 w2
  go_wp2_with fail
  refine bodyPost_ret (v := .bool false) ?_ rfl ⟨rfl, (Old.refl w).alloc _⟩
  simp [results, Try.f23, go_sem]

set_option maxRecDepth 100000 in
set_option maxHeartbeats 2000000 in
theorem same_ft (a b : Value) (w : World) (ha : ∀ W, Old w W → Calls Try.prog 43 #[a] W fun e w' => e = .returned (.bool false) ∧ w' = W) (hb : ∀ W, Old w W → Calls Try.prog 43 #[b] W fun e w' => e = .returned (.bool true) ∧ w' = W) :
    Calls Try.prog 23 #[a, b] w fun e w' => e = .returned (.bool false) ∧ Old w w' := by
  have ka := hid ha
  have kb := hid hb
  clear ha hb
  go_enter Try.func23, Try.ntmps23
  go_wp2_with fail
  refine (ka.out _ ((Old.refl _).alloc _)).mono ?_
  rintro e w2 ⟨rfl, e2⟩
  rw [e2]
  clear e2 w2
  go_wp2_with fail
  refine (kb.out _ ((Old.refl _).alloc _)).mono ?_
  rintro e w2 ⟨rfl, e2⟩
  rw [e2]
  clear e2 w2
  go_wp2_with fail
  refine (ka.out _ ((Old.refl _).alloc _)).mono ?_
  rintro e w2 ⟨rfl, e2⟩
  rw [e2]
  clear e2 w2
  go_wp2_with fail
  refine bodyPost_ret (v := .bool false) ?_ rfl ⟨rfl, (Old.refl w).alloc _⟩
  simp [results, Try.f23, go_sem]

end Go.Proofs.Ytjkgijfddgppjaa
