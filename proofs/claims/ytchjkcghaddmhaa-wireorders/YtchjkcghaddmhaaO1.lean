/- Two writers side by side; WireOrders, walked. -/
import Derived.Test.YtchjkcghaddmhaaM1
import Derived.Test.YtchjkcghaddmhaaN2
import Derived.Deep.DrawnRows
import Derived.Lib.Strings
namespace Go.Proofs.Ytchjkcghaddmhaa
open Go.RowKit

/-- w' is w with new blocks alone. -/
def Gr (w w' : World) : Prop := Frm (fun _ => False) w w'
theorem Gr.rfl' (w : World) : Gr w w := Frm.refl _ _

/-- Two writers in a world that grew out of w. -/
structure Two (w W : World) (a : Nat) (ra : Option Nat) (xs : List UInt8) (b : Nat) (rb : Option Nat) (ys : List UInt8) : Prop where
  wa : Wr W a ra xs
  wb : Wr W b rb ys
  frm : Frm (fun _ => False) w W
  a_ge : w.heap.size ≤ a
  b_ge : w.heap.size ≤ b
  ne : a ≠ b
  ne1 : ra ≠ some b
  ne2 : rb ≠ some a
  ne3 : ∀ g, ra = some g → rb ≠ some g

theorem Two.grow {w W W' : World} {a : Nat} {ra : Option Nat} {xs : List UInt8} {b : Nat} {rb : Option Nat} {ys : List UInt8} (h : Two w W a ra xs b rb ys) (hf : Gr W W') : Two w W' a ra xs b rb ys :=
  ⟨h.wa.kept hf (fun e => e) (fun _ _ e => e), h.wb.kept hf (fun e => e) (fun _ _ e => e), h.frm.trans hf (fun _ _ e => e), h.a_ge, h.b_ge, h.ne, h.ne1, h.ne2, h.ne3⟩

theorem Two.swap {w W : World} {a : Nat} {ra : Option Nat} {xs : List UInt8} {b : Nat} {rb : Option Nat} {ys : List UInt8} (h : Two w W a ra xs b rb ys) : Two w W b rb ys a ra xs :=
  ⟨h.wb, h.wa, h.frm, h.b_ge, h.a_ge, fun e => h.ne e.symm, h.ne2, h.ne1, fun g h1 h2 => h.ne3 g h2 h1⟩

theorem Two.write {w W W' : World} {a : Nat} {ra : Option Nat} {xs zs : List UInt8} {b : Nat} {rb : Option Nat} {ys : List UInt8} (h : Two w W a ra xs b rb ys) (ho : WrOut W a ra zs W') :
    ∃ ra', Two w W' a ra' zs b rb ys := by
  obtain ⟨r', h1, h2, h3⟩ := ho
  have ha := h.a_ge
  have hrow := h.wa.row
  refine ⟨r', h1, h.wb.kept h2 ?_ ?_, h.frm.trans h2 ?_, h.a_ge, h.b_ge, h.ne, ?_, h.ne2, ?_⟩
  · intro hS
    rcases hS with hS | hS
    · exact h.ne hS.symm
    · exact h.ne1 hS.symm
  · intro g hg hS
    rcases hS with hS | hS
    · exact h.ne2 (by rw [hg, hS])
    · exact h.ne3 g hS.symm hg
  · intro i hi hS
    rcases hS with hS | hS
    · omega
    · have := hrow i hS.symm; omega
  · rcases h3 with h3 | ⟨g, h3, hg⟩
    · rw [h3]; exact h.ne1
    · intro e; rw [h3] at e; have := h.wb.lt; simp at e; omega
  · intro g hg e
    rcases h3 with h3 | ⟨g', h3, hg'⟩
    · exact h.ne3 g (by rw [← h3, hg]) e
    · have := (h.wb.row g e).2; rw [h3] at hg; simp at hg; omega

theorem two_new {w W1 W2 : World} {a b : Nat} (h1 : Wr W1 a none []) (h2 : Frm (fun _ => False) w W1) (h3 : w.heap.size ≤ a) (h4 : Wr W2 b none []) (h5 : Frm (fun _ => False) W1 W2) (h6 : W1.heap.size ≤ b) :
    Two w W2 a none [] b none [] := by
  have := h1.lt
  have := h2.size
  exact ⟨h1.kept h5 (fun e => e) (fun _ _ e => e), h4, h2.trans h5 (fun _ _ e => e), h3, by omega, by omega, by simp, by simp, by simp⟩

/-- The bytes of the first writer: a copy, which reads as their text in every later world. -/
theorem two_bytes {w W : World} {a : Nat} {ra : Option Nat} {xs : List UInt8} {b : Nat} {rb : Option Nat} {ys : List UInt8} (h : Two w W a ra xs b rb ys) (hlen : xs.length ≤ 900000000000) :
    Calls Try.prog 13 #[.pointer (some ⟨a, 0, none⟩)] W fun e w' => ∃ ao cap, e = .returned (.slice ao xs.length cap) ∧ (∀ V, Gr w' V → (convert 25 9 (.slice ao xs.length cap)).run Try.prog V = .ok (.string ⟨xs.toArray⟩) V) ∧ Two w w' a ra xs b rb ys ∧ Gr W w' := by
  refine (wbytes_any a ra xs W h.wa hlen).mono ?_
  rintro e w' ⟨v', rfl, hrow, hf⟩
  obtain ⟨ao, cap, rfl⟩ := slice_of_owns hrow.2
  exact ⟨ao, cap, rfl, fun V hV => conv_row (hrow.kept hV (fun _ _ e => e)), h.grow hf, hf⟩

theorem take_beq {X Y n : Nat} {l m : List UInt8} (h3 : decide (X = Y) = (l.take (min l.length m.length) == m.take (min l.length m.length))) (h2 : decide (X = Y) = (l == m)) (hn : n = min l.length m.length) :
    (((ByteArray.mk l.toArray).extract 0 n).toList == ((ByteArray.mk m.toArray).extract 0 n).toList) = (l == m) := by
  rw [Lib.extract_toList, Lib.extract_toList, ← h2, h3, hn]
  simp

theorem wrap_lo (x : Int) : -9223372036854775808 ≤ wrap64 x := by unfold wrap64; omega
theorem wrap_hi (x : Int) : wrap64 x ≤ 9223372036854775807 := by unfold wrap64; omega
theorem fold_w (x : Int) (w : World) : Calls Try.prog 27 #[.int .i64 (wrap64 x)] w fun e w' => e = .returned (.int .u64 (Lib.zigzag (wrap64 x) : Int)) ∧ w' = w := fold_any _ w (wrap_lo x) (wrap_hi x)
theorem refFold_w (x : Int) (w : World) : Calls Try.prog 28 #[.int .i64 (wrap64 x)] w fun e w' => e = .returned (.int .u64 (Lib.zigzag (wrap64 x) : Int)) ∧ w' = w := refFold_any _ w (wrap_lo x) (wrap_hi x)
theorem zig_le (x : Int) (h0 : -9223372036854775808 ≤ x) (h1 : x ≤ 9223372036854775807) : ((Lib.zigzag x : Nat) : Int) ≤ 18446744073709551615 := by have := Lib.zigzag_lt h0 h1; omega
theorem unfold_w (x : Int) (w : World) : Calls Try.prog 29 #[.int .u64 (Lib.zigzag (wrap64 x) : Int)] w fun e w' => e = .returned (.int .i64 (unfoldN (Lib.zigzag (wrap64 x) : Int))) ∧ w' = w :=
  unfold_any _ w (Int.natCast_nonneg _) (zig_le _ (wrap_lo x) (wrap_hi x))
theorem unf_bd (x : Int) (h0 : 0 ≤ x) (h1 : x ≤ 18446744073709551615) : -9223372036854775808 ≤ unfoldN x ∧ unfoldN x ≤ 9223372036854775807 := by
  unfold unfoldN; split <;> omega

theorem refNumber_int (x : Int) (w : World) (hx0 : 0 ≤ x) (hx1 : x ≤ 18446744073709551615) :
    Calls Try.prog 26 #[.int .u64 x] w fun e w' => ∃ v, e = .returned v ∧ OwnB w' w.heap.size v (numF x.toNat) ∧ Frm (fun _ => False) w w' := by
  have h := refNumber_any x.toNat w (show x.toNat < 18446744073709551616 by omega)
  rw [show ((x.toNat : Nat) : Int) = x from by omega] at h
  exact h

attribute [local go_sem ↓] Go.wp_at_zero Go.wp_at_succ

set_option maxRecDepth 100000 in
set_option maxHeartbeats 4000000 in
theorem wireOrders_walk (hk : Known) (X Y : Nat) (hX : Hid (X < 18446744073709551616)) (hY : Hid (Y < 18446744073709551616)) (x y : Int) (ex : Hid (x = X)) (ey : Hid (y = Y)) (hx0 : 0 ≤ x) (hx1 : x ≤ 18446744073709551615) (hy0 : 0 ≤ y) (hy1 : y ≤ 18446744073709551615) (w : World) :
    Calls Try.prog 6 #[.int .u64 x, .int .u64 y] w fun e w' => e = .returned (.bool true) ∧ Frm (fun _ => False) w w' := by
  have hlx : (numF X).length ≤ 9 := by rw [numF_length]; exact (sz_bd X).2
  have hly : (numF Y).length ≤ 9 := by rw [numF_length]; exact (sz_bd Y).2
  have hf1 : decide (x < y) = Op.bytesLess (numF X) (numF Y) := by
    rw [← (orders X Y hX.out hY.out).1, ex.out, ey.out]; simp
  have hf2 : (x == y) = (numF X == numF Y) := by
    rw [← (orders X Y hX.out hY.out).2.1, ex.out, ey.out, Bool.eq_iff_iff]; simp; omega
  have hsz : Hid ((sz x.toNat : Int) = ((numF X).length : Int)) := by
    show (sz x.toNat : Int) = ((numF X).length : Int)
    rw [numF_length, ex.out]; simp
  have hnl : Hid (numF x.toNat = numF X) := by show numF x.toNat = numF X; rw [ex.out]; simp
  have hu1 := unzig_zig (wrap64 x)
  have hu2 := zig_unzig x hx0
  have hf3 := hid (orders X Y hX.out hY.out).2.2
  have hf2n := hid (orders X Y hX.out hY.out).2.1
  go_enter Try.func6, Try.ntmps6
  go_wp2_with fail
  refine (newWriter_new w).mono ?_
  rintro e W1 ⟨a, rfl, h1, h2, h3⟩
  go_wp2_with fail
  refine (newWriter_new _).mono ?_
  rintro e W2 ⟨b, rfl, h4, h5, h6⟩
  have T0 := two_new h1 h2 h3 h4 h5 h6
  clear h1 h2 h3 h4 h5 h6
  go_wp2_with fail
  refine (hk _).mono ?_
  rintro e W3 ⟨rfl, hf⟩
  have T1 := T0.grow hf
  clear T0 hf
  go_wp2_with fail
  refine (wnumber_any a _ _ x _ T1.wa hx0 hx1 (by decide)).mono ?_
  rintro e W4 ⟨rfl, ho⟩
  obtain ⟨ra, T2⟩ := T1.write ho
  clear T1 ho
  go_wp2_with fail
  refine (wnumber_any b _ _ y _ T2.wb hy0 hy1 (by decide)).mono ?_
  rintro e W5 ⟨rfl, ho⟩
  obtain ⟨rb, T3⟩ := T2.swap.write ho
  have T4 := T3.swap
  clear T2 T3 ho
  rw [List.nil_append, List.nil_append, show x.toNat = X from by rw [ex.out]; omega, show y.toNat = Y from by rw [ey.out]; omega] at T4
  generalize numF X = l at *
  generalize numF Y = m at *
  go_wp2_with fail
  have TD : Two w W5.drew a ra l b rb m := T4.grow ((Frm.refl _ _).drew)
  go_region_with
    (first
      | (go_at_call_of 13 (Value.pointer (some ⟨a, 0, none⟩)); refine (two_bytes (by assumption) (by omega)).mono ?_; rintro e w1 ⟨ao, cap, rfl, hc1, ht1, hg1⟩; have hgr1 := Gr.rfl' w1)
      | (go_at_call_of 13 (Value.pointer (some ⟨b, 0, none⟩)); refine (two_bytes (Two.swap (by assumption)) (by omega)).mono ?_; rintro e w2 ⟨ao2, cap2, rfl, hc2, ht2, hg2⟩; have hgr2 := Gr.rfl' w2))
  all_goals
    have hF := ht2.frm
    clear ht1 hg1 hgr1 hc1 ht2 hg2 hgr2 hc2 TD T4
    go_wp2_with fail
    refine (size_any x _ hx0 hx1).mono ?_
    rintro e w3 ⟨rfl, rfl⟩
    rw [hsz.out]
    go_wp2_with fail
    refine (refNumber_int x _ hx0 hx1).mono ?_
    rintro e w4 ⟨v, rfl, hown, hF2⟩
    rw [hnl.out] at hown
    obtain ⟨ao3, cap3, rfl⟩ := slice_of_owns hown
    have hF3 := hF.trans hF2 (fun _ _ e => e)
    clear hown hF2 hF
    go_wp2_with fail
    · have hq := take_beq (n := m.length) hf3.out hf2n.out (by omega)
      clear hf3 hf2n hsz hnl hf1
      refine wp_region_quiet_lit (by kernel_rfl) (by kernel_rfl) ?_
      iterate 44 (any_goals (first | go_big_quiet_step (first | (go_at_call_of 27 (Value.int IntKind.i64 (wrap64 x)); exact Calls.quiet_of_same (fold_w x _)) | (go_at_call_of 27 (Value.int IntKind.i64 (unfoldN x)); exact Calls.quiet_of_same (fold_any _ _ (unf_bd x hx0 hx1).1 (unf_bd x hx0 hx1).2)) | (go_at_call 28; exact Calls.quiet_of_same (refFold_w x _)) | (go_at_call_of 29 (Value.int IntKind.u64 x); exact Calls.quiet_of_same (unfold_any x _ hx0 hx1)) | (go_at_call_of 29 (Value.int IntKind.u64 ((Lib.zigzag (wrap64 x) : Nat) : Int)); exact Calls.quiet_of_same (unfold_w x _)) | (go_at_call 30; exact Calls.quiet_of_same (refUnfold_any x _ hx0 hx1))) | quiet_step (first | (go_at_call_of 27 (Value.int IntKind.i64 (wrap64 x)); exact Calls.quiet_of_same (fold_w x _)) | (go_at_call_of 27 (Value.int IntKind.i64 (unfoldN x)); exact Calls.quiet_of_same (fold_any _ _ (unf_bd x hx0 hx1).1 (unf_bd x hx0 hx1).2)) | (go_at_call 28; exact Calls.quiet_of_same (refFold_w x _)) | (go_at_call_of 29 (Value.int IntKind.u64 x); exact Calls.quiet_of_same (unfold_any x _ hx0 hx1)) | (go_at_call_of 29 (Value.int IntKind.u64 ((Lib.zigzag (wrap64 x) : Nat) : Int)); exact Calls.quiet_of_same (unfold_w x _)) | (go_at_call 30; exact Calls.quiet_of_same (refUnfold_any x _ hx0 hx1))) | (refine wpQuiet_step (fun K hK => ?_); go_simp; refine hK _ ?_; clear hK K)))
      refine wpQuiet_nil ?_
      intro _ hw'
      obtain ⟨nq, hw''⟩ := hw'
      subst hw''
      go_wp2
      go_ret
      exact ⟨rfl, hF3.drewN nq⟩
    · have hq := take_beq (n := l.length) hf3.out hf2n.out (by omega)
      clear hf3 hf2n hsz hnl hf1
      refine wp_region_quiet_lit (by kernel_rfl) (by kernel_rfl) ?_
      iterate 44 (any_goals (first | go_big_quiet_step (first | (go_at_call_of 27 (Value.int IntKind.i64 (wrap64 x)); exact Calls.quiet_of_same (fold_w x _)) | (go_at_call_of 27 (Value.int IntKind.i64 (unfoldN x)); exact Calls.quiet_of_same (fold_any _ _ (unf_bd x hx0 hx1).1 (unf_bd x hx0 hx1).2)) | (go_at_call 28; exact Calls.quiet_of_same (refFold_w x _)) | (go_at_call_of 29 (Value.int IntKind.u64 x); exact Calls.quiet_of_same (unfold_any x _ hx0 hx1)) | (go_at_call_of 29 (Value.int IntKind.u64 ((Lib.zigzag (wrap64 x) : Nat) : Int)); exact Calls.quiet_of_same (unfold_w x _)) | (go_at_call 30; exact Calls.quiet_of_same (refUnfold_any x _ hx0 hx1))) | quiet_step (first | (go_at_call_of 27 (Value.int IntKind.i64 (wrap64 x)); exact Calls.quiet_of_same (fold_w x _)) | (go_at_call_of 27 (Value.int IntKind.i64 (unfoldN x)); exact Calls.quiet_of_same (fold_any _ _ (unf_bd x hx0 hx1).1 (unf_bd x hx0 hx1).2)) | (go_at_call 28; exact Calls.quiet_of_same (refFold_w x _)) | (go_at_call_of 29 (Value.int IntKind.u64 x); exact Calls.quiet_of_same (unfold_any x _ hx0 hx1)) | (go_at_call_of 29 (Value.int IntKind.u64 ((Lib.zigzag (wrap64 x) : Nat) : Int)); exact Calls.quiet_of_same (unfold_w x _)) | (go_at_call 30; exact Calls.quiet_of_same (refUnfold_any x _ hx0 hx1))) | (refine wpQuiet_step (fun K hK => ?_); go_simp; refine hK _ ?_; clear hK K)))
      refine wpQuiet_nil ?_
      intro _ hw'
      obtain ⟨nq, hw''⟩ := hw'
      subst hw''
      go_wp2
      go_ret
      exact ⟨rfl, hF3.drewN nq⟩

end Go.Proofs.Ytchjkcghaddmhaa
