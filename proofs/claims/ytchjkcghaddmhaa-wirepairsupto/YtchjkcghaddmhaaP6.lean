/- WirePairs where nothing is read. -/
import Derived.Test.YtchjkcghaddmhaaP5
namespace Go.Proofs.Ytchjkcghaddmhaa
open Go.RowKit

set_option maxRecDepth 100000 in
set_option maxHeartbeats 4000000 in
theorem pairs_neg (hk : Known) (ao : Option Addr) (cap : Nat) (xs : List UInt8) (most : Int) (w : World) (hs : Src w ao cap xs) (hlen : xs.length ≤ 900000000000) (hm1 : most ≤ 9223372036854775807)
    (hneg : most < 0) (t1 t2 : Int) (t3 : Nat) (hT : Hid (prTake (xs.drop 0) most = ([], 2, 0))) (ht : Hid (rdNum (xs.drop 0) = (t1, t2, t3))) :
    Calls Try.prog 7 #[.slice ao xs.length cap, .int .i64 most] w fun e w' => e = .returned (.bool true) ∧ Frm (fun _ => False) w w' := by
  go_enter Try.func7, Try.ntmps7
  go_wp2_with fail
  refine (newReader_src ao cap xs _ hs hlen).mono ?_
  rintro e W1 ⟨rb, v, rfl, hrd, hF1, hrb, hvb⟩
  have hrd2 := hrd.kept (S := fun _ => False) ((Frm.refl _ W1).alloc (.cells #[.slice ao xs.length cap, .int .i64 0] 48)) (fun e => e) (fun _ _ e => e)
  go_wp2_with fail
  refine (prtake_any rb v xs 0 most _ hrd2 hlen hm1).mono ?_
  rintro e W3 ⟨u, rfl, hpa, hro, hfo⟩
  rw [hT.out] at hpa hro ⊢
  have PB0 := pb_new hs hF1 hrb hrd hro hpa hfo
  clear hrd hrd2 hF1 hrb hvb hpa hro hfo
  generalize W1.heap.size = db at *
  dsimp only at PB0 ⊢
  go_wp2_with fail
  refine (refNum_any db ao cap xs 0 _ PB0.rr hlen).mono ?_
  rintro e W4 ⟨rfl, hrr, hff⟩
  rw [ht.out] at hrr ⊢
  have PB1 := PB0.num hrr hff
  clear PB0 hrr hff
  dsimp only at PB1 ⊢
  obtain ⟨ao', cap', hu⟩ := slice_of_owns PB1.own
  rw [List.length_nil] at hu
  subst hu
  go_wp2_with fail
  refine (num_any _ _).mono ?_
  rintro e w' ⟨rfl, rfl⟩
  go_wp2_with fail
  refine (rplace_any rb _ xs _ _ PB1.rd).mono ?_
  rintro e w' ⟨rfl, rfl⟩
  go_wp2_with fail
  refine (hk _).mono ?_
  rintro e W9 ⟨rfl, hF9⟩
  have hF := PB1.rr.frm
  go_wp2
  go_ret
  exact ⟨rfl, hF.trans hF9 (fun _ _ e => e)⟩

set_option maxRecDepth 100000 in
set_option maxHeartbeats 4000000 in
theorem pairs_err1 (hk : Known) (ao : Option Addr) (cap : Nat) (xs : List UInt8) (most : Int) (w : World) (hs : Src w ao cap xs) (hlen : xs.length ≤ 900000000000) (hm1 : most ≤ 9223372036854775807)
    (hpos : 0 ≤ most) (t1 er : Int) (t3 : Nat) (her : (er == 0) = false) (hne : (er != 0) = true) (hT : Hid (prTake (xs.drop 0) most = ([], er, 0))) (ht : Hid (rdNum (xs.drop 0) = (t1, er, t3))) :
    Calls Try.prog 7 #[.slice ao xs.length cap, .int .i64 most] w fun e w' => e = .returned (.bool true) ∧ Frm (fun _ => False) w w' := by
  go_enter Try.func7, Try.ntmps7
  go_wp2_with fail
  refine (newReader_src ao cap xs _ hs hlen).mono ?_
  rintro e W1 ⟨rb, v, rfl, hrd, hF1, hrb, hvb⟩
  have hrd2 := hrd.kept (S := fun _ => False) ((Frm.refl _ W1).alloc (.cells #[.slice ao xs.length cap, .int .i64 0] 48)) (fun e => e) (fun _ _ e => e)
  go_wp2_with fail
  refine (prtake_any rb v xs 0 most _ hrd2 hlen hm1).mono ?_
  rintro e W3 ⟨u, rfl, hpa, hro, hfo⟩
  rw [hT.out] at hpa hro ⊢
  have PB0 := pb_new hs hF1 hrb hrd hro hpa hfo
  clear hrd hrd2 hF1 hrb hvb hpa hro hfo
  generalize W1.heap.size = db at *
  dsimp only at PB0 ⊢
  go_wp2_with fail
  refine (refNum_any db ao cap xs 0 _ PB0.rr hlen).mono ?_
  rintro e W4 ⟨rfl, hrr, hff⟩
  rw [ht.out] at hrr ⊢
  have PB1 := PB0.num hrr hff
  clear PB0 hrr hff
  dsimp only at PB1 ⊢
  obtain ⟨ao', cap', hu⟩ := slice_of_owns PB1.own
  rw [List.length_nil] at hu
  subst hu
  go_wp2_with fail
  refine wp_loop_rounds 1 ?_
  rw [rounds_succ]
  go_wp2_with fail
  refine (num_any _ _).mono ?_
  rintro e w' ⟨rfl, rfl⟩
  go_wp2_with fail
  refine (rplace_any rb _ xs _ _ PB1.rd).mono ?_
  rintro e w' ⟨rfl, rfl⟩
  go_wp2_with fail
  refine (hk _).mono ?_
  rintro e W9 ⟨rfl, hF9⟩
  have hF := PB1.rr.frm
  go_wp2
  go_ret
  exact ⟨rfl, hF.trans hF9 (fun _ _ e => e)⟩

set_option maxRecDepth 100000 in
set_option maxHeartbeats 4000000 in
theorem pairs_err2 (hk : Known) (ao : Option Addr) (cap : Nat) (xs : List UInt8) (most : Int) (w : World) (hs : Src w ao cap xs) (hlen : xs.length ≤ 900000000000) (hm1 : most ≤ 9223372036854775807)
    (hpos : 0 ≤ most) (t1 : Int) (t3 : Nat) (hgt : most < t1) (hT : Hid (prTake (xs.drop 0) most = ([], 3, 0))) (ht : Hid (rdNum (xs.drop 0) = (t1, 0, t3))) :
    Calls Try.prog 7 #[.slice ao xs.length cap, .int .i64 most] w fun e w' => e = .returned (.bool true) ∧ Frm (fun _ => False) w w' := by
  go_enter Try.func7, Try.ntmps7
  go_wp2_with fail
  refine (newReader_src ao cap xs _ hs hlen).mono ?_
  rintro e W1 ⟨rb, v, rfl, hrd, hF1, hrb, hvb⟩
  have hrd2 := hrd.kept (S := fun _ => False) ((Frm.refl _ W1).alloc (.cells #[.slice ao xs.length cap, .int .i64 0] 48)) (fun e => e) (fun _ _ e => e)
  go_wp2_with fail
  refine (prtake_any rb v xs 0 most _ hrd2 hlen hm1).mono ?_
  rintro e W3 ⟨u, rfl, hpa, hro, hfo⟩
  rw [hT.out] at hpa hro ⊢
  have PB0 := pb_new hs hF1 hrb hrd hro hpa hfo
  clear hrd hrd2 hF1 hrb hvb hpa hro hfo
  generalize W1.heap.size = db at *
  dsimp only at PB0 ⊢
  go_wp2_with fail
  refine (refNum_any db ao cap xs 0 _ PB0.rr hlen).mono ?_
  rintro e W4 ⟨rfl, hrr, hff⟩
  rw [ht.out] at hrr ⊢
  have PB1 := PB0.num hrr hff
  clear PB0 hrr hff
  dsimp only at PB1 ⊢
  obtain ⟨ao', cap', hu⟩ := slice_of_owns PB1.own
  rw [List.length_nil] at hu
  subst hu
  go_wp2_with fail
  refine wp_loop_rounds 1 ?_
  rw [rounds_succ]
  go_wp2_with fail
  refine (num_any _ _).mono ?_
  rintro e w' ⟨rfl, rfl⟩
  go_wp2_with fail
  refine (rplace_any rb _ xs _ _ PB1.rd).mono ?_
  rintro e w' ⟨rfl, rfl⟩
  go_wp2_with fail
  refine (hk _).mono ?_
  rintro e W9 ⟨rfl, hF9⟩
  have hF := PB1.rr.frm
  go_wp2
  go_ret
  exact ⟨rfl, hF.trans hF9 (fun _ _ e => e)⟩

set_option maxRecDepth 100000 in
set_option maxHeartbeats 4000000 in
theorem pairs_err3 (hk : Known) (ao : Option Addr) (cap : Nat) (xs : List UInt8) (most : Int) (w : World) (hs : Src w ao cap xs) (hlen : xs.length ≤ 900000000000) (hm1 : most ≤ 9223372036854775807)
    (hpos : 0 ≤ most) (t1 : Int) (t3 : Nat) (hle1 : ¬ most < t1) (hlt3 : (xs.length : Int) - (t3 : Int) < t1) (ht3 : t3 ≤ xs.length) (hT : Hid (prTake (xs.drop 0) most = ([], 110, 0))) (ht : Hid (rdNum (xs.drop 0) = (t1, 0, t3))) :
    Calls Try.prog 7 #[.slice ao xs.length cap, .int .i64 most] w fun e w' => e = .returned (.bool true) ∧ Frm (fun _ => False) w w' := by
  go_enter Try.func7, Try.ntmps7
  go_wp2_with fail
  refine (newReader_src ao cap xs _ hs hlen).mono ?_
  rintro e W1 ⟨rb, v, rfl, hrd, hF1, hrb, hvb⟩
  have hrd2 := hrd.kept (S := fun _ => False) ((Frm.refl _ W1).alloc (.cells #[.slice ao xs.length cap, .int .i64 0] 48)) (fun e => e) (fun _ _ e => e)
  go_wp2_with fail
  refine (prtake_any rb v xs 0 most _ hrd2 hlen hm1).mono ?_
  rintro e W3 ⟨u, rfl, hpa, hro, hfo⟩
  rw [hT.out] at hpa hro ⊢
  have PB0 := pb_new hs hF1 hrb hrd hro hpa hfo
  clear hrd hrd2 hF1 hrb hvb hpa hro hfo
  generalize W1.heap.size = db at *
  dsimp only at PB0 ⊢
  go_wp2_with fail
  refine (refNum_any db ao cap xs 0 _ PB0.rr hlen).mono ?_
  rintro e W4 ⟨rfl, hrr, hff⟩
  rw [ht.out] at hrr ⊢
  have PB1 := PB0.num hrr hff
  clear PB0 hrr hff
  dsimp only at PB1 ⊢
  obtain ⟨ao', cap', hu⟩ := slice_of_owns PB1.own
  rw [List.length_nil] at hu
  subst hu
  go_wp2_with fail
  refine (refLeft_any db ao cap xs _ _ PB1.rr hlen).mono ?_
  rintro e W5 ⟨rfl, n5, rfl⟩
  have PB2 := PB1.grow ((Frm.refl _ W4).drewN n5)
  clear PB1
  have PB1 := PB2
  clear PB2
  have hlt4 : (xs.length : Int) - ((0 + t3 : Nat) : Int) < t1 := by omega
  go_wp2_with fail
  refine wp_loop_rounds 1 ?_
  rw [rounds_succ]
  go_wp2_with fail
  refine (num_any _ _).mono ?_
  rintro e w' ⟨rfl, rfl⟩
  go_wp2_with fail
  refine (rplace_any rb _ xs _ _ PB1.rd).mono ?_
  rintro e w' ⟨rfl, rfl⟩
  go_wp2_with fail
  refine (hk _).mono ?_
  rintro e W9 ⟨rfl, hF9⟩
  have hF := PB1.rr.frm
  go_wp2
  go_ret
  exact ⟨rfl, hF.trans hF9 (fun _ _ e => e)⟩

end Go.Proofs.Ytchjkcghaddmhaa
