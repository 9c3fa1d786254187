/- The closed sentence WireNil, walked. -/
import Derived.Test.YtchjkcghaddmhaaN1
namespace Go.Proofs.Ytchjkcghaddmhaa
open Go.RowKit

/-- known answers true, and turns nothing that was there. -/
def Known : Prop := ∀ w : World, Calls Try.prog 15 #[] w fun e w' => e = .returned (.bool true) ∧ Frm (fun _ => False) w w'

set_option maxRecDepth 100000 in
set_option maxHeartbeats 4000000 in
theorem wireNil_walk (hk : Known) (w : World) : Calls Try.prog 8 #[] w fun e w' => e = .returned (.bool true) ∧ Frm (fun _ => False) w w' := by
  go_enter Try.func8, Try.ntmps8
  go_wp2_with fail
  refine (nil24 _ _).mono ?_
  rintro e w' ⟨rfl, rfl⟩
  go_wp2_with fail
  refine (num_any _ _).mono ?_
  rintro e w' ⟨rfl, rfl⟩
  go_wp2_with fail
  refine (nil34 _).mono ?_
  rintro e w' ⟨rfl, rfl⟩
  go_wp2_with fail
  refine (num_any _ _).mono ?_
  rintro e w' ⟨rfl, rfl⟩
  go_wp2_with fail
  refine (nil35 _ _).mono ?_
  rintro e w' ⟨rfl, rfl⟩
  go_wp2_with fail
  refine (num_any _ _).mono ?_
  rintro e w' ⟨rfl, rfl⟩
  go_wp2_with fail
  refine (nil36 _ _).mono ?_
  rintro e w' ⟨rfl, rfl⟩
  go_wp2_with fail
  refine (num_any _ _).mono ?_
  rintro e w' ⟨rfl, rfl⟩
  go_wp2_with fail
  refine (nil37 _ _).mono ?_
  rintro e w' ⟨rfl, rfl⟩
  go_wp2_with fail
  refine (num_any _ _).mono ?_
  rintro e w' ⟨rfl, rfl⟩
  go_wp2_with fail
  refine (nil12 _).mono ?_
  rintro e w' ⟨rfl, rfl⟩
  go_wp2_with fail
  refine (nil13 _).mono ?_
  rintro e w' ⟨rfl, rfl⟩
  go_wp2_with fail
  refine (nil38 _ _ _).mono ?_
  rintro e w' ⟨rfl, rfl⟩
  go_wp2_with fail
  refine (num_any _ _).mono ?_
  rintro e w' ⟨rfl, rfl⟩
  go_wp2_with fail
  refine (newWriter_new _).mono ?_
  rintro e W1 ⟨b, rfl, hw1, hF1, hb1⟩
  go_wp2_with fail
  refine (nof38 _ _ _).mono ?_
  rintro e w' ⟨rfl, rfl⟩
  go_wp2_with fail
  refine (num_any _ _).mono ?_
  rintro e w' ⟨rfl, rfl⟩
  go_wp2_with fail
  refine (nil40 _).mono ?_
  rintro e w' ⟨rfl, rfl⟩
  go_wp2_with fail
  refine (nil41 _).mono ?_
  rintro e w' ⟨rfl, rfl⟩
  go_wp2_with fail
  refine (nil42 _).mono ?_
  rintro e w' ⟨rfl, rfl⟩
  go_wp2_with fail
  refine (nil43 _).mono ?_
  rintro e w' ⟨rfl, rfl⟩
  go_wp2_with fail
  refine (nil44 _ _).mono ?_
  rintro e w' ⟨rfl, rfl⟩
  go_wp2_with fail
  refine (nil45 _ _ _).mono ?_
  rintro e w' ⟨rfl, rfl⟩
  go_wp2_with fail
  refine (newReader_any _ 0 _ [1, 1] _ (row_lit _ [1, 1] _ (by rfl) (by decide)) (by decide)).mono ?_
  rintro e W3 ⟨rb, v, rfl, hrd, hF2, hrb, hvb⟩
  have hF3 := (hF1.alloc _).trans hF2 (fun _ _ h => h)
  clear hrd hF2 hrb hvb hF1 hw1 hb1
  go_wp2_with fail
  refine (nof45 _ _ _).mono ?_
  rintro e w' ⟨rfl, rfl⟩
  go_wp2_with fail
  refine (rnumber_any _ _ _ _ _ (rd_zero _) (by decide)).mono ?_
  rintro e W4 ⟨rfl, ho4⟩
  rw [show rdNum (List.drop 0 []) = (0, 110, 0) from rfl] at ho4 ⊢
  have hb := (rd_zero w').lt
  have hzb : w'.heap.size < W4.heap.size := ho4.1.lt
  have hF4 : Frm (fun _ => False) _ W4 := (hF3.alloc _).trans ho4.2 (fun i hi e => by have := hF3.size; omega)
  have hrd4 := ho4.1.kept (S := fun _ => False) ((Frm.refl _ W4).alloc (.cells #[.slice none 0 0] 27)) (fun e => e) (fun _ _ e => e)
  have hwr4 := wr_new W4
  have hF5 := hF4.alloc (.cells #[.slice none 0 0] 27)
  have hF5b := hF4.size
  clear ho4 hF4 hF3
  have hne : w'.heap.size ≠ W4.heap.size := by omega
  have hsz := hF5.size
  generalize w'.heap.size = zb at *
  go_wp2_with fail
  refine (num_any _ _).mono ?_
  rintro e w' ⟨rfl, rfl⟩
  go_wp2_with fail
  refine (num_any _ _).mono ?_
  rintro e w' ⟨rfl, rfl⟩
  go_wp2_with fail
  refine (num_any _ _).mono ?_
  rintro e w' ⟨rfl, rfl⟩
  go_wp2_with fail
  refine (num_any _ _).mono ?_
  rintro e w' ⟨rfl, rfl⟩
  go_wp2_with fail
  refine (num_any _ _).mono ?_
  rintro e w' ⟨rfl, rfl⟩
  go_wp2_with fail
  refine (num_any _ _).mono ?_
  rintro e w' ⟨rfl, rfl⟩
  go_wp2_with fail
  refine (num_any _ _).mono ?_
  rintro e w' ⟨rfl, rfl⟩
  go_wp2_with fail
  refine (nil23 _).mono ?_
  rintro e w' ⟨rfl, rfl⟩
  go_wp2_with fail
  refine (num_any _ _).mono ?_
  rintro e w' ⟨rfl, rfl⟩
  go_wp2_with fail
  refine (nil19 _).mono ?_
  rintro e w' ⟨rfl, rfl⟩
  go_wp2_with fail
  refine (nil18 _).mono ?_
  rintro e w' ⟨rfl, rfl⟩
  go_wp2_with fail
  refine (num_any _ _).mono ?_
  rintro e w' ⟨rfl, rfl⟩
  go_wp2_with fail
  refine (rend_any _ _ _ _ _ hrd4 (by decide)).mono ?_
  rintro e W5 ⟨rfl, n, rfl⟩
  rw [if_neg (by decide)]
  go_wp2_with fail
  refine (num_any _ _).mono ?_
  rintro e w' ⟨rfl, rfl⟩
  have hwr5 := hwr4.kept (S := fun _ => False) ((Frm.refl _ _).drewN n) (fun e => e) (fun _ _ e => e)
  have hF6 := hF5.drewN n
  have hvb := hF5b
  clear hwr4 hF5 hrd4
  go_wp2_with fail
  refine (wnumber_any _ _ _ _ _ hwr5 (by omega) (by omega) (by decide)).mono ?_
  rintro e W6 ⟨rfl, r6, hwr6, hf6, _⟩
  have hF7 := hF6.trans hf6 (fun i hi hS => by rcases hS with hS | hS; · omega
                                               · simp at hS)
  go_wp2_with fail
  refine (num_any _ _).mono ?_
  rintro e w' ⟨rfl, rfl⟩
  go_wp2_with fail
  refine (wlen_any _ _ _ _ hwr6).mono ?_
  rintro e w' ⟨rfl, rfl⟩
  rw [show ((([] ++ numF (Int.toNat 7) : List UInt8).length : Nat) : Int) = 1 from by decide]
  go_wp2_with fail
  refine (hk _).mono ?_
  rintro e W8 ⟨rfl, hF8⟩
  go_wp2
  go_ret
  exact ⟨rfl, hF7.trans hF8 (fun _ _ e => e)⟩

end Go.Proofs.Ytchjkcghaddmhaa
