/- Ten coins are shared, halved, told. -/
import Derived.Test.YtocpbnjkijpbiaaDoorW1
namespace Go.Proofs.YtocpbnjkijpbiaaDoor
open Go.RowKit Go.Lib

theorem rL_ex : rL 10 5 [1, 2, 2] = [0, 0, 0] := by decide
theorem qL_ex : qL 10 5 [1, 2, 2] = [2, 4, 4] := by decide

theorem share_ex {out : List Int} (h : ShareR 10 [1, 2, 2] out) : out = [2, 4, 4] := by
  obtain ⟨o, _, rfl⟩ := h
  rw [show ([1, 2, 2] : List Int).sum = 5 by decide, qL_ex]
  rfl

theorem new_nums (w : World) : NumsC .i64 (w.alloc (.cells #[.int .i64 1, .int .i64 2, .int .i64 2] 2)) (some ⟨w.heap.size, 0, none⟩) [1, 2, 2] :=
  Own.nums (t := 2) ⟨heap_new w _⟩

set_option maxRecDepth 100000 in
set_option maxHeartbeats 4000000 in
theorem even_any (c n : Int) (w : World) : Calls Tryd.prog 15 #[.int .i64 c, .int .i64 n] w fun e w' => e = .returned (.func (.func 30) #[] #[.pointer (some ⟨w.heap.size, 0, none⟩), .pointer (some ⟨w.heap.size + 1, 0, none⟩)]) ∧ w' = (w.alloc (.cells #[.int .i64 c] 2)).alloc (.cells #[.int .i64 n] 3) := by
  have hmf : ∀ (fn : Fn) (first cap : Array Value) (w : World), (Instr.makeFunc fn first cap).run Tryd.prog w = .ok (.func fn first cap) w := fun _ _ _ _ => rfl
  go_enter Tryd.func15, Tryd.ntmps15
  go_wp2
  go_ret
  exact ⟨rfl, rfl⟩

theorem num_any (x : Int) (w : World) : Calls Tryd.prog 7 #[.int .i64 x] w fun e w' => e = .returned (.int .i64 x) ∧ w' = w := by
  go_enter Tryd.func7, Tryd.ntmps7
  go_wp2
  go_ret
  exact ⟨rfl, rfl⟩

set_option maxRecDepth 100000 in
set_option maxHeartbeats 8000000 in
theorem works_any (w : World) : Calls Tryd.prog 5 #[] w fun e w' => e = .returned (.bool true) ∧ Old w w' := by
  have hS := hid (share_good 10 (some ⟨w.heap.size, 0, none⟩) 3 [1, 2, 2] _ (new_nums w) ⟨by decide, by decide, by decide, by decide⟩)
  have hP := hid part_w
  have hR := hid rate_w
  have hX := hid parse_w
  have hE := hid (fun w => even_any 7 3 w)
  have hT := hid text_w
  have hA := hid (fun w => are_any 12 w)
  rw [areB_true (by omega)] at hA
  have hN := hid num_any
  have hfn : ∀ (p q : Value) (w : World), (binOp BinOp.eql 42 (.func (.func 30) #[] #[p, q]) .nilFunc).run Tryd.prog w = .ok (.bool false) w := fun _ _ _ => by kernel_rfl
  have hff : ∀ (w : World), (binOp BinOp.eql 23 (.float .f64 4598175219545276416) (.float .f64 4598175219545276416)).run Tryd.prog w = .ok (.bool true) w := fun _ => by kernel_rfl
  go_enter Tryd.func5, Tryd.ntmps5
  go_wp2_with fail
  refine hS.out.mono ?_
  rintro e w1 ⟨b, out, rfl, ho, hown, hold, hb⟩
  obtain rfl := share_ex ho
  have hold1 := hid (((Old.refl w).alloc (.cells #[.int .i64 1, .int .i64 2, .int .i64 2] 2)).trans hold)
  have hown1 := hid hown
  clear hS ho hold hown hb
  go_wp2_with fail
  refine (hP.out _).mono ?_
  rintro e w2 ⟨rfl, e2⟩
  rw [e2]
  clear e2
  go_wp2_with fail
  refine (hR.out _).mono ?_
  rintro e w2 ⟨rfl, e2⟩
  rw [e2]
  clear e2
  go_wp2_with fail
  refine (hX.out _).mono ?_
  rintro e w3 ⟨rfl, e3⟩
  have e3' := hid e3
  clear e3
  go_wp2_with fail
  refine (hE.out _).mono ?_
  rintro e w4 ⟨rfl, e4⟩
  have hold4 := hid (show Old w1 w4 by rw [e4]; exact (e3'.out.alloc _).alloc _)
  clear e4
  have hown4 := hown1.out.kept hold4.out (fun h => h)
  have c0 := (hown4.cell (i := 0) (by decide)).1
  have c2 := (hown4.cell (i := 2) (by decide)).1
  simp only [List.getElem_cons_zero, List.getElem_cons_succ] at c0 c2
  clear hown4 hown1 e3' hE hX hR hP
  go_wp2_with (first
    | (go_at_call 7; refine (hN.out _ _).mono ?_; rintro e w2 ⟨rfl, e2⟩; rw [e2]; clear e2)
    | (go_at_call 16; refine (hT.out _).mono ?_; rintro e w2 ⟨rfl, e2⟩; rw [e2]; clear e2)
    | (go_at_call 17; refine (hA.out _).mono ?_; rintro e w2 ⟨rfl, e2⟩; rw [e2]; clear e2))
  go_ret
  exact ⟨rfl, hold1.out.trans hold4.out⟩
end Go.Proofs.YtocpbnjkijpbiaaDoor
