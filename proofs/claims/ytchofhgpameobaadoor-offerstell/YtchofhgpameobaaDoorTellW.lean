/- OffersTell, walked. -/
import Derived.Test.YtchofhgpameobaaDoorH8
import Derived.Test.YtchofhgpameobaaDoorH9
import Derived.Test.YtchofhgpameobaaDoorH10
namespace Go.Proofs.YtchofhgpameobaaDoor
open Go.RowKit

set_option maxRecDepth 100000 in
set_option maxHeartbeats 8000000 in
theorem tell_walk (n : Int) (ao : Option Addr) (cap : Nat) (L : List Off) (g : Nat) (w : World) (h : OffC w ao L) (hn : ao = none → cap = 0) (hl : L.length ≤ 9223372036854775807) (hL : ∀ x ∈ L, x.1 < 4294967296) (hT : Tabs w) :
    Calls Tryd.prog 3 #[.int .i64 n, .slice ao L.length cap, .int .u32 (g : Int)] w fun e w' => e = .returned (.bool true) ∧ Old w w' := by
  have q1 : Old w (w.alloc (.cells #[.slice ao L.length cap] 22)) := (Old.refl w).alloc _
  have h1 := heap_new w (.cells #[.slice ao L.length cap] 22)
  have hI : InsC (w.alloc (.cells #[.slice ao L.length cap] 22)) (some ⟨w.heap.size, 0, none⟩) [L] := by
    intro i hi
    match i, hi with
    | 0, _ => exact ⟨w.heap.size, 0, ao, cap, rfl, blk_cells h1 rfl, h.old q1, hl, hL⟩
  have kLo := hid (long_any (some ⟨w.heap.size, 0, none⟩) 1 [L] _ hI (by simp))
  have T1 := hid (hT.old q1)
  have O1 := hid (h.old q1)
  have ko1 := hid q1
  have kL := hid hL
  have hlo : lo60 [L] = decide (60 < L.length) := by simp [lo60]
  clear h1 hI q1 h hT hL
  by_cases h60 : 60 < L.length
  · rw [hlo, decide_eq_true h60] at kLo
    go_enter Tryd.func3, Tryd.ntmps3
    go_wp2_with fail
    generalize w.alloc (.cells #[.slice ao L.length cap] 22) = w1 at *
    refine kLo.out.mono ?_
    rintro e w' ⟨rfl, e1⟩
    rw [e1]
    clear e1 w' kLo
    have kK := hid (works_any w1 T1.out)
    go_wp2_with fail
    refine kK.out.mono ?_
    rintro e w2 ⟨rfl, o2⟩
    have ko2 := hid (ko1.out.trans o2)
    clear o2
    go_wp2_with fail
    go_ret
    exact ⟨rfl, ko2.out⟩
  · rw [hlo, decide_eq_false h60] at kLo
    go_enter Tryd.func3, Tryd.ntmps3
    go_wp2_with fail
    generalize w.alloc (.cells #[.slice ao L.length cap] 22) = w1 at *
    refine kLo.out.mono ?_
    rintro e w' ⟨rfl, e1⟩
    rw [e1]
    clear e1 w' kLo
    have k2 := hid (lent_any ao cap L w1 O1.out hn (by omega))
    go_wp2_with fail
    refine k2.out.mono ?_
    rintro e w2 ⟨v, rfl, lv, o2⟩
    have ko2 := hid (ko1.out.trans o2)
    have T2 := hid (T1.out.old o2)
    have O2 := hid (O1.out.old o2)
    have kv2 := hid lv
    obtain ⟨mb, mc, rfl, hmc, hmb, ow⟩ := lv
    have M2 := hid ow.front.off
    clear ow o2 k2 ko1 T1 O1
    have k3 := hid (ocheck_any n (some ⟨mb, 0, none⟩) mc L w2 M2.out hl kL.out)
    go_wp2_with fail
    refine k3.out.mono ?_
    rintro e w3 ⟨rfl, o3⟩
    have ko3 := hid (ko2.out.trans o3)
    have T3 := hid (T2.out.old o3)
    have O3 := hid (O2.out.old o3)
    have kv3 := hid (kv2.out.old o3)
    have M3 := hid (M2.out.old o3)
    clear o3 k3 ko2 T2 O2 kv2 M2
    have k4 := hid (rcheck_any n ao cap L w3 O3.out hl)
    go_wp2_with fail
    refine k4.out.mono ?_
    rintro e w4 ⟨rfl, o4⟩
    have ko4 := hid (ko3.out.trans o4)
    have T4 := hid (T3.out.old o4)
    have O4 := hid (O3.out.old o4)
    have kv4 := hid (kv3.out.old o4)
    have M4 := hid (M3.out.old o4)
    clear o4 k4 ko3 T3 O3 kv3 M3
    have k5 := hid (oworth_any g (some ⟨mb, 0, none⟩) mc L w4 M4.out hl)
    go_wp2_with fail
    refine k5.out.mono ?_
    rintro e w5 ⟨rfl, o5⟩
    have ko5 := hid (ko4.out.trans o5)
    have T5 := hid (T4.out.old o5)
    have O5 := hid (O4.out.old o5)
    have kv5 := hid (kv4.out.old o5)
    have M5 := hid (M4.out.old o5)
    clear o5 k5 ko4 T4 O4 kv4 M4
    have k6 := hid (rworth_any g ao cap L w5 O5.out hl)
    go_wp2_with fail
    refine k6.out.mono ?_
    rintro e w' ⟨rfl, e1⟩
    rw [e1]
    clear e1 w' k6
    have k7 := hid (greatest_any (some ⟨mb, 0, none⟩) mc L w5 M5.out hl)
    go_wp2_with fail
    refine k7.out.mono ?_
    rintro e w7 ⟨rfl, o7⟩
    have ko7 := hid (ko5.out.trans o7)
    have T7 := hid (T5.out.old o7)
    have O7 := hid (O5.out.old o7)
    have kv7 := hid (kv5.out.old o7)
    clear o7 k7 ko5 T5 O5 kv5 M5
    have k8 := hid (rgreatest_any ao cap L w7 O7.out hl kL.out)
    go_wp2_with fail
    refine k8.out.mono ?_
    rintro e w' ⟨rfl, e1⟩
    rw [e1]
    clear e1 w' k8
    have kNum := hid num_any
    have k9 := hid (kept_any _ _ ao cap L w7 kv7.out O7.out (by omega))
    go_wp2_with (first | (go_at_call 18; refine (kNum.out _ _).mono ?_; rintro e w' ⟨rfl, e1⟩; rw [e1]; clear e1) | fail)
    refine k9.out.mono ?_
    rintro e w9 ⟨rfl, o9⟩
    have ko9 := hid (ko7.out.trans o9)
    have kK := hid (works_any w9 (T7.out.old o9))
    clear o9 k9 ko7 T7 O7 kv7
    go_wp2_with fail
    refine kK.out.mono ?_
    rintro e w10 ⟨rfl, o10⟩
    have ko10 := hid (ko9.out.trans o10)
    clear o10 kK
    go_wp2_with fail
    go_ret
    exact ⟨rfl, ko10.out⟩
end Go.Proofs.YtchofhgpameobaaDoor
