/- The document's reader: flags, real numbers, texts. -/
import Derived.Test.YtchjkcghaddmhaaP2
import Derived.Test.YtchjkcghaddmhaaB1
namespace Go.Proofs.Ytchjkcghaddmhaa
open Go.RowKit

/-- What the document's reader leaves, whatever it answers. -/
def RAns (w0 w : World) (db : Nat) (ao : Option Addr) (cap : Nat) (xs : List UInt8) (p : Nat) (u : Value) (er : Int) (c : Nat) (e : Ending) (w' : World) : Prop :=
  e = .returned (.tuple #[u, .int .i64 er]) ∧ RR w0 w' db ao cap xs (p + c) ∧ Frm (fun k => k = db) w w'

set_option maxRecDepth 100000 in
set_option maxHeartbeats 2000000 in
theorem refFlag_end {w0 : World} (db : Nat) (ao : Option Addr) (cap : Nat) (xs : List UInt8) (p : Nat) (w : World) (hr : RR w0 w db ao cap xs p) (hlen : xs.length ≤ 900000000000) (h : xs.drop p = []) :
    Calls Try.prog 54 #[.pointer (some ⟨db, 0, none⟩)] w fun e w' => RAns w0 w db ao cap xs p (.bool false) 110 0 e w' := by
  have hle := hr.le
  have hl := congrArg List.length h
  simp only [List.length_drop, List.length_nil] at hl
  have hd : (xs.length : Int) - (p : Int) < 1 := by omega
  go_enter Try.func54, Try.ntmps54
  go_wp2_with fail
  refine (refLeft_any db ao cap xs p _ hr hlen).mono ?_
  rintro e w1 ⟨rfl, k, rfl⟩
  go_wp2
  go_ret2
  exact ⟨rfl, hr.grow ((Frm.refl _ w).drewN k), (Frm.refl _ w).drewN k⟩

theorem head_at {xs l : List UInt8} {c : UInt8} {p : Nat} (h : xs.drop p = c :: l) (hlt : p < xs.length) : xs[p] = c := by
  have := List.getElem_drop (xs := xs) (i := p) (j := 0) (h := by simp; omega)
  simp only [h] at this
  simpa using this.symm

set_option maxRecDepth 100000 in
set_option maxHeartbeats 2000000 in
theorem refFlag_good {w0 : World} (db : Nat) (ao : Option Addr) (cap : Nat) (xs l : List UInt8) (c : UInt8) (p : Nat) (w : World) (hr : RR w0 w db ao cap xs p) (hlen : xs.length ≤ 900000000000) (h : xs.drop p = c :: l) (hc : c.toNat ≤ 1) :
    Calls Try.prog 54 #[.pointer (some ⟨db, 0, none⟩)] w fun e w' => RAns w0 w db ao cap xs p (.bool (decide (c.toNat = 1))) 0 1 e w' := by
  have hle := hr.le
  obtain ⟨hlt, hdp, hl⟩ := drop_cons h
  have hcv := head_at h hlt
  have hd : ¬ (xs.length : Int) - (p : Int) < 1 := by omega
  have he : Hid (Value.bool ((c.toNat : Int) == 1) = .bool (decide (c.toNat = 1))) := by
    show Value.bool ((c.toNat : Int) == 1) = .bool (decide (c.toNat = 1))
    congr 1
    rw [Bool.eq_iff_iff, beq_iff_eq, decide_eq_true_eq]; omega
  clear h hdp
  go_enter Try.func54, Try.ntmps54
  go_wp2_with fail
  refine (refLeft_any db ao cap xs p _ hr hlen).mono ?_
  rintro e w1 ⟨rfl, k, rfl⟩
  have hr1 := hr.grow ((Frm.refl (fun _ => False) w).drewN k)
  have hf1 : Frm (fun k => k = db) w (w.drewN k) := (Frm.refl _ w).drewN k
  generalize w.drewN k = w1 at *
  clear hr
  obtain ⟨hc0, hc1, hz1⟩ := hr1.cells
  obtain ⟨g, o, hao, hcell⟩ := hr1.byte p hlt
  rw [hcv] at hcell
  subst hao
  have hcb := c.toNat_lt
  have b1 : (0 : Int) ≤ (p : Int) := by omega
  have b2 : (p : Int) < (xs.length : Int) := by omega
  go_wp2_with fail
  go_quiet (fail)
  have hr2 := hr1.grow ((Frm.refl (fun _ => False) w1).drewN nq)
  have hf2 := hf1.drewN nq
  generalize w1.drewN nq = w2 at *
  clear hr1 hf1 hc0 hc1 hz1 hcell
  obtain ⟨hc0, hc1, hz1⟩ := hr2.cells
  have hst := hr2.set (q := p + 1) (by omega)
  rw [show ((p + 1 : Nat) : Int) = (p : Int) + 1 from by omega] at hst
  go_wp2_with fail
  generalize w2.setCell ⟨db, 1, none⟩ (.int .i64 ((p : Int) + 1)) = w3 at *
  obtain ⟨hr3, hf3⟩ := hst
  clear hc0 hc1 hz1
  obtain ⟨hc0, hc1, hz1⟩ := hr3.cells
  obtain ⟨g', o', hao, hcell⟩ := hr3.byte p hlt
  rw [hcv] at hcell
  simp only [Option.some.injEq, Addr.mk.injEq] at hao
  obtain ⟨rfl, rfl, _⟩ := hao
  rw [show ((p + 1 : Nat) : Int) = (p : Int) + 1 from by omega] at hc1
  go_quiet (fail)
  go_wp2
  go_ret2
  rw [he.out]
  exact ⟨rfl, hr3.grow ((Frm.refl _ w3).drewN _), (hf2.trans hf3 (fun _ _ h => h)).drewN _⟩

set_option maxRecDepth 100000 in
set_option maxHeartbeats 2000000 in
theorem refFlag_form {w0 : World} (db : Nat) (ao : Option Addr) (cap : Nat) (xs l : List UInt8) (c : UInt8) (p : Nat) (w : World) (hr : RR w0 w db ao cap xs p) (hlen : xs.length ≤ 900000000000) (h : xs.drop p = c :: l) (hc : ¬ c.toNat ≤ 1) :
    Calls Try.prog 54 #[.pointer (some ⟨db, 0, none⟩)] w fun e w' => RAns w0 w db ao cap xs p (.bool false) 111 0 e w' := by
  have hle := hr.le
  obtain ⟨hlt, hdp, hl⟩ := drop_cons h
  have hcv := head_at h hlt
  have hd : ¬ (xs.length : Int) - (p : Int) < 1 := by omega
  clear h hdp
  go_enter Try.func54, Try.ntmps54
  go_wp2_with fail
  refine (refLeft_any db ao cap xs p _ hr hlen).mono ?_
  rintro e w1 ⟨rfl, k, rfl⟩
  have hr1 := hr.grow ((Frm.refl (fun _ => False) w).drewN k)
  have hf1 : Frm (fun k => k = db) w (w.drewN k) := (Frm.refl _ w).drewN k
  generalize w.drewN k = w1 at *
  clear hr
  obtain ⟨hc0, hc1, hz1⟩ := hr1.cells
  obtain ⟨g, o, hao, hcell⟩ := hr1.byte p hlt
  rw [hcv] at hcell
  subst hao
  have hcb := c.toNat_lt
  have b1 : (0 : Int) ≤ (p : Int) := by omega
  have b2 : (p : Int) < (xs.length : Int) := by omega
  go_wp2_with fail
  go_quiet (fail)
  go_wp2
  go_ret2
  exact ⟨rfl, hr1.grow ((Frm.refl _ w1).drewN _), hf1.drewN _⟩

theorem refFlag_any {w0 : World} (db : Nat) (ao : Option Addr) (cap : Nat) (xs : List UInt8) (p : Nat) (w : World) (hr : RR w0 w db ao cap xs p) (hlen : xs.length ≤ 900000000000) :
    Calls Try.prog 54 #[.pointer (some ⟨db, 0, none⟩)] w fun e w' => RAns w0 w db ao cap xs p (.bool (rdFlag (xs.drop p)).1) (rdFlag (xs.drop p)).2.1 (rdFlag (xs.drop p)).2.2 e w' := by
  cases h : xs.drop p with
  | nil => exact refFlag_end db ao cap xs p w hr hlen h
  | cons c l =>
    by_cases hc : c.toNat ≤ 1
    · rw [show rdFlag (c :: l) = (decide (c.toNat = 1), 0, 1) from by simp only [rdFlag]; rw [if_pos hc]]
      exact refFlag_good db ao cap xs l c p w hr hlen h hc
    · rw [show rdFlag (c :: l) = (false, 111, 0) from by simp only [rdFlag]; rw [if_neg hc]]
      exact refFlag_form db ao cap xs l c p w hr hlen h hc

set_option maxRecDepth 100000 in
set_option maxHeartbeats 2000000 in
theorem refReal_end {w0 : World} (db : Nat) (ao : Option Addr) (cap : Nat) (xs : List UInt8) (p : Nat) (w : World) (hr : RR w0 w db ao cap xs p) (hlen : xs.length ≤ 900000000000) (h : xs.length < p + 8) :
    Calls Try.prog 55 #[.pointer (some ⟨db, 0, none⟩)] w fun e w' => RAns w0 w db ao cap xs p (.int .u64 0) 110 0 e w' := by
  have hle := hr.le
  have hd : (xs.length : Int) - (p : Int) < 8 := by omega
  go_enter Try.func55, Try.ntmps55
  go_wp2_with fail
  refine (refLeft_any db ao cap xs p _ hr hlen).mono ?_
  rintro e w1 ⟨rfl, k, rfl⟩
  go_wp2
  go_ret2
  exact ⟨rfl, hr.grow ((Frm.refl _ w).drewN k), (Frm.refl _ w).drewN k⟩

set_option maxRecDepth 100000 in
set_option maxHeartbeats 2000000 in
theorem refReal_good {w0 : World} (db : Nat) (ao : Option Addr) (cap : Nat) (xs : List UInt8) (p : Nat) (w : World) (hr : RR w0 w db ao cap xs p) (hlen : xs.length ≤ 900000000000) (h : ¬ xs.length < p + 8) :
    Calls Try.prog 55 #[.pointer (some ⟨db, 0, none⟩)] w fun e w' => RAns w0 w db ao cap xs p (.int .u64 (val ((xs.drop p).take 8))) 0 8 e w' := by
  have hle := hr.le
  have hd : ¬ (xs.length : Int) - (p : Int) < 8 := by omega
  go_enter Try.func55, Try.ntmps55
  go_wp2_with fail
  refine (refLeft_any db ao cap xs p _ hr hlen).mono ?_
  rintro e w1 ⟨rfl, k, rfl⟩
  have hr1 := hr.grow ((Frm.refl (fun _ => False) w).drewN k)
  have hf1 : Frm (fun k => k = db) w (w.drewN k) := (Frm.refl _ w).drewN k
  generalize w.drewN k = w1 at *
  clear hr
  go_wp2_with fail
  go_loopw [4, 5] (fun x i wr => ∃ j : Nat, j ≤ 8 ∧ i = .int .i64 (j : Int) ∧ x = .int .u64 (val ((xs.drop p).take j)) ∧ RR w0 wr db ao cap xs p ∧ Frm (fun k => k = db) w wr) (fun _ i _ => 8 - (intOf i).toNat)
  case atStart => exact ⟨0, Nat.zero_le _, rfl, rfl, hr1, hf1⟩
  case round =>
    clear hr1 hf1
    obtain ⟨j, hj, rfl, rfl, hr4, hf4⟩ := hrel
    by_cases hlt2 : j < 8
    · obtain ⟨hc0, hc1, hz1⟩ := hr4.cells
      have hpj : p + j < xs.length := by omega
      obtain ⟨g, o, hao, hcell⟩ := hr4.byte (p + j) hpj
      subst hao
      have hv0 := val_nonneg ((xs.drop p).take j)
      have hv7 := val7 ((xs.drop p).take j) (by rw [List.length_take]; omega)
      have hvs := val_snoc ((xs.drop p).take j) xs[p + j]
      rw [← take_drop_snoc xs p j hpj] at hvs
      have hcb := xs[p + j].toNat_lt
      generalize val ((xs.drop p).take j) = y at *
      generalize xs[p + j] = d at *
      have HV := hid hvs
      clear hvs
      have b3 : (0 : Int) ≤ (p : Int) + (j : Int) := by omega
      have b4 : (p : Int) + (j : Int) < (xs.length : Int) := by omega
      have hpn : ((p : Int) + (j : Int)).toNat = p + j := by omega
      go_wp2_with fail
      go_quiet (fail)
      have hr5 := hr4.grow ((Frm.refl (fun _ => False) wr).drewN nq)
      have hf5 := hf4.drewN nq
      clear hc0 hc1 hz1 hcell
      go_wp2
      go_roundw
      case rel => exact ⟨j + 1, by omega, by go_num, by rw [HV.out, Int.mul_comm], hr5, hf5⟩
      case measure => simp [intOf]; omega
    · obtain rfl : j = 8 := by omega
      obtain ⟨hc0, hc1, hz1⟩ := hr4.cells
      have hst := hid (hr4.set (q := p + 8) (by omega))
      go_wp2
      go_ret2
      exact ⟨rfl, hst.out.1, hf4.trans hst.out.2 (fun _ _ h => h)⟩

theorem refReal_any {w0 : World} (db : Nat) (ao : Option Addr) (cap : Nat) (xs : List UInt8) (p : Nat) (w : World) (hr : RR w0 w db ao cap xs p) (hlen : xs.length ≤ 900000000000) :
    Calls Try.prog 55 #[.pointer (some ⟨db, 0, none⟩)] w fun e w' => RAns w0 w db ao cap xs p (.int .u64 ((rdReal (xs.drop p)).1 : Int)) (rdReal (xs.drop p)).2.1 (rdReal (xs.drop p)).2.2 e w' := by
  have hle := hr.le
  by_cases h : xs.length < p + 8
  · rw [show rdReal (xs.drop p) = (0, 110, 0) from by unfold rdReal; rw [if_pos (by rw [List.length_drop]; omega)]]
    exact refReal_end db ao cap xs p w hr hlen h
  · rw [show rdReal (xs.drop p) = ((val ((xs.drop p).take 8)).toNat, 0, 8) from by unfold rdReal; rw [if_neg (by rw [List.length_drop]; omega)]]
    dsimp only
    rw [Int.toNat_of_nonneg (val_nonneg _)]
    exact refReal_good db ao cap xs p w hr hlen h

end Go.Proofs.Ytchjkcghaddmhaa
