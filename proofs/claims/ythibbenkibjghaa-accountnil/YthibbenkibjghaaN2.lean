/- nothing: accounts that are not there, and zero ones: walked. -/
import Derived.Test.YthibbenkibjghaaN1
import Derived.Test.YthibbenkibjghaaG2
import Derived.Test.YthibbenkibjghaaK1
namespace Go.Proofs.Ythibbenkibjghaa
open Go.RowKit Go.Lib Go.Shelf Go.Maps
attribute [local go_sem] Oper.semAt_some

set_option maxRecDepth 100000 in
set_option maxHeartbeats 8000000 in
theorem nothing_any (p : Option Addr) (w : World) (h : NM w p) : Calls Try.prog 31 #[.pointer p] w fun e w' => e = .returned (.bool true) ∧ Old w w' := by
  have kN := hid (fun e W => num_any e W)
  have kh := hid h
  have ko := hid (Old.refl w)
  clear h
  go_enter Try.func31, Try.ntmps31
  go_wp2_with fail
  refine (rel_no p (-1) _ kh.out).mono ?_
  rintro e w0 ⟨rfl, o0⟩
  have kh2 := hid (kh.out.old o0)
  have ko2 := hid (ko.out.trans o0)
  clear kh ko o0
  have kh := hid kh2.out
  have ko := hid ko2.out
  clear kh2 ko2
  go_wp2_with fail
  refine (bring_no p 1 _ kh.out).mono ?_
  rintro e w1 ⟨rfl, o1⟩
  have kh2 := hid (kh.out.old o1)
  have ko2 := hid (ko.out.trans o1)
  clear kh ko o1
  have kh := hid kh2.out
  have ko := hid ko2.out
  clear kh2 ko2
  go_wp2_with fail
  refine (kN.out _ _).mono ?_
  rintro e w' ⟨rfl, e2⟩
  rw [e2]
  clear e2
  go_wp2_with fail
  refine (hold_no p (-1) 1 _ kh.out).mono ?_
  rintro e w2 ⟨rfl, o2⟩
  have kh2 := hid (kh.out.old o2)
  have ko2 := hid (ko.out.trans o2)
  clear kh ko o2
  have kh := hid kh2.out
  have ko := hid ko2.out
  clear kh2 ko2
  go_wp2_with fail
  refine (kN.out _ _).mono ?_
  rintro e w' ⟨rfl, e2⟩
  rw [e2]
  clear e2
  go_wp2_with fail
  refine (kN.out _ _).mono ?_
  rintro e w' ⟨rfl, e2⟩
  rw [e2]
  clear e2
  go_wp2_with fail
  refine (pay_no p 0 0 _ kh.out).mono ?_
  rintro e w3 ⟨rfl, o3⟩
  have kh2 := hid (kh.out.old o3)
  have ko2 := hid (ko.out.trans o3)
  clear kh ko o3
  have kh := hid kh2.out
  have ko := hid ko2.out
  clear kh2 ko2
  go_wp2_with fail
  refine (kN.out _ _).mono ?_
  rintro e w' ⟨rfl, e2⟩
  rw [e2]
  clear e2
  go_wp2_with fail
  refine (take_no p 0 _ kh.out).mono ?_
  rintro e w4 ⟨rfl, o4⟩
  have kh2 := hid (kh.out.old o4)
  have ko2 := hid (ko.out.trans o4)
  clear kh ko o4
  have kh := hid kh2.out
  have ko := hid ko2.out
  clear kh2 ko2
  go_wp2_with fail
  refine (kN.out _ _).mono ?_
  rintro e w' ⟨rfl, e2⟩
  rw [e2]
  clear e2
  go_wp2_with fail
  refine (budget_no p _ kh.out).mono ?_
  rintro e w' ⟨rfl, e2⟩
  rw [e2]
  clear e2
  go_wp2_with fail
  refine (spent_no p _ kh.out).mono ?_
  rintro e w' ⟨rfl, e2⟩
  rw [e2]
  clear e2
  go_wp2_with fail
  refine (free_no p _ kh.out).mono ?_
  rintro e w' ⟨rfl, e2⟩
  rw [e2]
  clear e2
  go_wp2_with fail
  refine (held_no p _ kh.out).mono ?_
  rintro e w' ⟨rfl, e2⟩
  rw [e2]
  clear e2
  go_wp2_with fail
  refine (at_no p 0 _ kh.out).mono ?_
  rintro e w' ⟨rfl, e2⟩
  rw [e2]
  clear e2
  go_wp2_with fail
  refine (can_no p 0 0 _ kh.out).mono ?_
  rintro e w5 ⟨rfl, o5⟩
  have kh2 := hid (kh.out.old o5)
  have ko2 := hid (ko.out.trans o5)
  clear kh ko o5
  have kh := hid kh2.out
  have ko := hid ko2.out
  clear kh2 ko2
  go_wp2_with fail
  refine (same_no1 p p _ kh.out).mono ?_
  rintro e w6 ⟨rfl, o6⟩
  have kh2 := hid (kh.out.old o6)
  have ko2 := hid (ko.out.trans o6)
  clear kh ko o6
  have kh := hid kh2.out
  have ko := hid ko2.out
  clear kh2 ko2
  go_wp2_with fail
  refine (copy_no p _ kh.out).mono ?_
  rintro e w' ⟨rfl, e2⟩
  rw [e2]
  clear e2
  go_wp2_with fail
  refine (goes_any p none [] 0 _ (AllF.none kh.out) rfl (by decide)).mono ?_
  rintro e w7 ⟨rfl, o7⟩
  have ko2 := hid (ko.out.trans o7)
  clear o7
  go_wp2_with fail
  go_ret
  exact ⟨rfl, ko2.out⟩
end Go.Proofs.Ythibbenkibjghaa
