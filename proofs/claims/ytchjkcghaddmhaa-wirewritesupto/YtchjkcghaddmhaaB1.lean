/- Signed numbers, flags, real numbers and texts are read. -/
import Derived.Test.YtchjkcghaddmhaaR5
import Derived.Test.YtchjkcghaddmhaaK1
namespace Go.Proofs.Ytchjkcghaddmhaa
open Go.RowKit

/-- What a reader's call that answers some value and an error leaves. -/
def RdAns (w : World) (b : Nat) (v : Value) (xs : List UInt8) (p : Nat) (u : Value) (er : Int) (c : Nat) (e : Ending) (w' : World) : Prop :=
  e = .returned (.tuple #[u, .int .i64 er]) ∧ RdOut w b v xs (p + c) w'

set_option maxRecDepth 100000 in
set_option maxHeartbeats 2000000 in
theorem rsigned_any (b : Nat) (v : Value) (xs : List UInt8) (p : Nat) (w : World) (hr : Rd w b v xs p) (hlen : xs.length ≤ 900000000000) :
    Calls Try.prog 41 #[.pointer (some ⟨b, 0, none⟩)] w fun e w' => RdAns w b v xs p (.int .i64 (unfoldN (rdNum (xs.drop p)).1)) (rdNum (xs.drop p)).2.1 (rdNum (xs.drop p)).2.2 e w' := by
  obtain ⟨f1, f2, f3, f4, f5, f6⟩ := rdNum_facts (xs.drop p)
  have hn := hid (rnumber_any b v xs p w hr hlen)
  generalize rdNum (xs.drop p) = t at *
  obtain ⟨x, er, c⟩ := t
  dsimp only at *
  clear f3 f4 f5 f6
  go_enter Try.func41, Try.ntmps41
  go_wp2_with fail
  refine hn.out.mono ?_
  rintro e w1 ⟨rfl, ho⟩
  dsimp only at ho
  go_wp2_with fail
  refine (unfold_any x _ f1 f2).mono ?_
  rintro e w2 ⟨rfl, rfl⟩
  go_wp2
  go_ret2
  exact ⟨rfl, ho⟩

/-- A flag at the head of some bytes. -/
def rdFlag : List UInt8 → Bool × Int × Nat
  | [] => (false, 110, 0)
  | c :: _ => if c.toNat ≤ 1 then (decide (c.toNat = 1), 0, 1) else (false, 111, 0)

set_option maxRecDepth 100000 in
set_option maxHeartbeats 2000000 in
theorem rflag_end (b : Nat) (v : Value) (xs : List UInt8) (p : Nat) (w : World) (hr : Rd w b v xs p) (hlen : xs.length ≤ 900000000000) (h : xs.drop p = []) :
    Calls Try.prog 42 #[.pointer (some ⟨b, 0, none⟩)] w fun e w' => RdAns w b v xs p (.bool false) 110 0 e w' := by
  have hle := hr.le
  have hl := congrArg List.length h
  simp only [List.length_drop, List.length_nil] at hl
  obtain ⟨hm, hr1, hf1⟩ := mk_new hr
  clear h
  go_enter Try.func42, Try.ntmps42
  go_wp2_with fail
  refine (mark_any b v xs p _ hr).mono ?_
  rintro e w1 ⟨rfl, rfl⟩
  go_wp2_with fail
  refine (rhigh_int_end b v xs p 1 _ hr1 hlen (by omega) (by omega)).mono ?_
  rintro e w2 ⟨rfl, hr2, hf2⟩
  go_wp2
  go_ret2
  exact ⟨rfl, hr2, hf1.trans hf2 (fun _ _ h => h)⟩

set_option maxRecDepth 100000 in
set_option maxHeartbeats 2000000 in
theorem rflag_good (b : Nat) (v : Value) (xs l : List UInt8) (c : UInt8) (p : Nat) (w : World) (hr : Rd w b v xs p) (hlen : xs.length ≤ 900000000000) (h : xs.drop p = c :: l) (hc : c.toNat ≤ 1) :
    Calls Try.prog 42 #[.pointer (some ⟨b, 0, none⟩)] w fun e w' => RdAns w b v xs p (.bool (decide (c.toNat = 1))) 0 1 e w' := by
  have hle := hr.le
  obtain ⟨hlt, hd, hl⟩ := drop_cons h
  have hval : Hid (val ((xs.drop p).take (Int.toNat 1)) = (c.toNat : Int)) := by show val ((xs.drop p).take (Int.toNat 1)) = (c.toNat : Int); rw [h]; simp [val]
  obtain ⟨hm, hr1, hf1⟩ := mk_new hr
  have he : Hid (Value.bool ((c.toNat : Int) == 1) = .bool (decide (c.toNat = 1))) := by
    show Value.bool ((c.toNat : Int) == 1) = .bool (decide (c.toNat = 1))
    congr 1
    rw [Bool.eq_iff_iff, beq_iff_eq, decide_eq_true_eq]; omega
  clear h hd
  go_enter Try.func42, Try.ntmps42
  go_wp2_with fail
  refine (mark_any b v xs p _ hr).mono ?_
  rintro e w1 ⟨rfl, rfl⟩
  go_wp2_with fail
  refine (rhigh_int b v xs p 1 _ hr1 hlen (by omega) (by omega) (by omega)).mono ?_
  rintro e w2 ⟨rfl, hr2, hf2⟩
  rw [hval.out]
  go_wp2
  go_ret2
  rw [he.out]
  exact ⟨rfl, hr2, hf1.trans hf2 (fun _ _ h => h)⟩

set_option maxRecDepth 100000 in
set_option maxHeartbeats 2000000 in
theorem rflag_form (b : Nat) (v : Value) (xs l : List UInt8) (c : UInt8) (p : Nat) (w : World) (hr : Rd w b v xs p) (hlen : xs.length ≤ 900000000000) (h : xs.drop p = c :: l) (hc : ¬ c.toNat ≤ 1) :
    Calls Try.prog 42 #[.pointer (some ⟨b, 0, none⟩)] w fun e w' => RdAns w b v xs p (.bool false) 111 0 e w' := by
  have hle := hr.le
  obtain ⟨hlt, hd, hl⟩ := drop_cons h
  have hval : Hid (val ((xs.drop p).take (Int.toNat 1)) = (c.toNat : Int)) := by show val ((xs.drop p).take (Int.toNat 1)) = (c.toNat : Int); rw [h]; simp [val]
  obtain ⟨hm, hr1, hf1⟩ := mk_new hr
  clear h hd
  go_enter Try.func42, Try.ntmps42
  go_wp2_with fail
  refine (mark_any b v xs p _ hr).mono ?_
  rintro e w1 ⟨rfl, rfl⟩
  go_wp2_with fail
  refine (rhigh_int b v xs p 1 _ hr1 hlen (by omega) (by omega) (by omega)).mono ?_
  rintro e w2 ⟨rfl, hr2, hf2⟩
  rw [hval.out]
  have hm2 := hm.kept hf2
  have hf3 := hf1.trans hf2 (fun _ _ h => h)
  clear hm hr1 hf1 hf2
  go_wp2_with fail
  refine (back_any _ b _ v xs p _ _ hr2 hle hm2).mono ?_
  rintro e w4 ⟨rfl, hr4, hf5⟩
  go_wp2
  go_ret2
  exact ⟨rfl, hr4, hf3.trans hf5 (fun _ _ h => h)⟩

theorem rflag_any (b : Nat) (v : Value) (xs : List UInt8) (p : Nat) (w : World) (hr : Rd w b v xs p) (hlen : xs.length ≤ 900000000000) :
    Calls Try.prog 42 #[.pointer (some ⟨b, 0, none⟩)] w fun e w' => RdAns w b v xs p (.bool (rdFlag (xs.drop p)).1) (rdFlag (xs.drop p)).2.1 (rdFlag (xs.drop p)).2.2 e w' := by
  cases h : xs.drop p with
  | nil => exact rflag_end b v xs p w hr hlen h
  | cons c l =>
    by_cases hc : c.toNat ≤ 1
    · rw [show rdFlag (c :: l) = (decide (c.toNat = 1), 0, 1) from by simp only [rdFlag]; rw [if_pos hc]]
      exact rflag_good b v xs l c p w hr hlen h hc
    · rw [show rdFlag (c :: l) = (false, 111, 0) from by simp only [rdFlag]; rw [if_neg hc]]
      exact rflag_form b v xs l c p w hr hlen h hc

/-- A real number's bits at the head of some bytes. -/
def rdReal (l : List UInt8) : Nat × Int × Nat := if l.length < 8 then (0, 110, 0) else ((val (l.take 8)).toNat, 0, 8)

set_option maxRecDepth 100000 in
set_option maxHeartbeats 2000000 in
theorem rreal_any (b : Nat) (v : Value) (xs : List UInt8) (p : Nat) (w : World) (hr : Rd w b v xs p) (hlen : xs.length ≤ 900000000000) :
    Calls Try.prog 43 #[.pointer (some ⟨b, 0, none⟩)] w fun e w' => RdAns w b v xs p (.float .f64 (rdReal (xs.drop p)).1) (rdReal (xs.drop p)).2.1 (rdReal (xs.drop p)).2.2 e w' := by
  have hle := hr.le
  by_cases h : xs.length < p + 8
  · rw [show rdReal (xs.drop p) = (0, 110, 0) from by unfold rdReal; rw [if_pos (by rw [List.length_drop]; omega)]]
    have hff0 : ∀ w, (callFunc 48 #[.int .u64 0]).run Try.prog w = .ok (.value (.float .f64 0)) w := fun w => f64from 0 w
    go_enter Try.func43, Try.ntmps43
    go_wp2_with fail
    refine (rhigh_int_end b v xs p 8 _ hr hlen (by omega) (by omega)).mono ?_
    rintro e w1 ⟨rfl, ho⟩
    go_wp2
    go_ret2
    exact ⟨rfl, ho⟩
  · rw [show rdReal (xs.drop p) = ((val ((xs.drop p).take 8)).toNat, 0, 8) from by unfold rdReal; rw [if_neg (by rw [List.length_drop]; omega)]]
    have hv0 := val_nonneg ((xs.drop p).take 8)
    have hh := hid (rhigh_int b v xs p 8 _ hr hlen (by omega) (by omega) (by omega))
    rw [show Int.toNat 8 = 8 from rfl] at hh
    generalize val ((xs.drop p).take 8) = x at *
    obtain ⟨X, rfl⟩ := Int.eq_ofNat_of_zero_le hv0
    rw [Int.toNat_natCast]
    have hffX := f64from X
    go_enter Try.func43, Try.ntmps43
    go_wp2_with fail
    refine hh.out.mono ?_
    rintro e w1 ⟨rfl, ho⟩
    go_wp2
    go_ret2
    exact ⟨rfl, ho⟩

/-- A text at the head of some bytes. -/
def rdText (l : List UInt8) (most : Int) : List UInt8 × Int × Nat :=
  if (rdCount l most).2.1 ≠ 0 then ([], (rdCount l most).2.1, 0)
  else ((l.drop (rdCount l most).2.2).take (rdCount l most).1.toNat, 0, (rdCount l most).2.2 + (rdCount l most).1.toNat)

theorem text_conv {w : World} {base : Nat} {r : Option Nat} {g m cap : Nat} {xs : List UInt8} {q n : Nat} (hnc : xs.length ≤ cap) (h : Row w base (.slice (some ⟨g, 0, none⟩) m cap) r xs) (hn : q + n ≤ xs.length) :
    (convert 25 9 (.slice (if cap = q then some ⟨g, 0, none⟩ else some ⟨g, q, none⟩) (((q : Int) + (n : Int)).toNat - q) (cap - q))).run Try.prog w = .ok (.string ⟨((xs.drop q).take n).toArray⟩) w := by
  have e : ((q : Int) + (n : Int)).toNat - q = ((xs.drop q).take n).length := by simp; omega
  rw [e]
  by_cases hc : cap = q
  · rw [if_pos hc]
    refine run_convert_bytes_back w 25 9 5 ⟨g, 0, none⟩ (cap - q) ((xs.drop q).take n) Try.underlying25 Try.underlying5 Try.underlying9 ?_
    intro j hj
    simp at hj
    omega
  · rw [if_neg hc]
    refine run_convert_bytes_back w 25 9 5 ⟨g, q, none⟩ (cap - q) ((xs.drop q).take n) Try.underlying25 Try.underlying5 Try.underlying9 ?_
    intro j hj
    have hjl : q + j < xs.length := by simp at hj; omega
    rw [Addr.add_lit, row_cell h (q + j) hjl]
    simp

set_option maxRecDepth 100000 in
set_option maxHeartbeats 2000000 in
theorem rtext_any (b : Nat) (v : Value) (xs : List UInt8) (p : Nat) (most : Int) (w : World) (hr : Rd w b v xs p) (hlen : xs.length ≤ 900000000000) (hm : most ≤ 9223372036854775807) :
    Calls Try.prog 44 #[.pointer (some ⟨b, 0, none⟩), .int .i64 most] w fun e w' => RdAns w b v xs p (.string ⟨(rdText (xs.drop p) most).1.toArray⟩) (rdText (xs.drop p) most).2.1 (rdText (xs.drop p) most).2.2 e w' := by
  have hle := hr.le
  obtain ⟨hmk, hr1, hf1⟩ := mk_new hr
  have hcnt := hid (rcount_any b v xs p most _ hr1 hlen hm)
  by_cases h0 : (rdCount (xs.drop p) most).2.1 ≠ 0
  · rw [show rdText (xs.drop p) most = ([], (rdCount (xs.drop p) most).2.1, 0) from by unfold rdText; rw [if_pos h0]]
    generalize rdCount (xs.drop p) most = t at *
    obtain ⟨x, er, c⟩ := t
    have ht : (er != 0) = true := by rw [bne_iff_ne]; exact h0
    clear h0
    go_enter Try.func44, Try.ntmps44
    go_wp2_with fail
    refine (mark_any b v xs p _ hr).mono ?_
    rintro e w1 ⟨rfl, rfl⟩
    go_wp2_with fail
    refine hcnt.out.mono ?_
    rintro e w2 ⟨rfl, q, ⟨hr2, hf2⟩, _⟩
    have hm2 := hmk.kept hf2
    go_wp2_with fail
    refine (back_any _ b _ v xs p _ _ hr2 hle hm2).mono ?_
    rintro e w3 ⟨rfl, hr3, hf3⟩
    go_wp2
    go_ret2
    exact ⟨rfl, hr3, (hf1.trans hf2 (fun _ _ h => h)).trans hf3 (fun _ _ h => h)⟩
  · have h0' : (rdCount (xs.drop p) most).2.1 = 0 := by omega
    obtain ⟨c1, c2, c3⟩ := rdCount_facts (xs.drop p) most h0'
    rw [show rdText (xs.drop p) most = (((xs.drop p).drop (rdCount (xs.drop p) most).2.2).take (rdCount (xs.drop p) most).1.toNat, 0, (rdCount (xs.drop p) most).2.2 + (rdCount (xs.drop p) most).1.toNat) from by unfold rdText; rw [if_neg h0]]
    have hne : xs ≠ [] := by
      rintro rfl
      simp [rdCount, rdNum] at h0'
      split at h0' <;> simp at h0'
    generalize rdCount (xs.drop p) most = t at *
    obtain ⟨x, er, c⟩ := t
    dsimp only at h0' c1 c2 c3
    subst h0'
    obtain ⟨n, rfl⟩ := Int.eq_ofNat_of_zero_le c1
    rw [List.length_drop] at c2
    clear h0 c3
    dsimp only
    rw [List.drop_drop, Int.toNat_natCast]
    rcases hr.row.2.2 with ⟨_, h0⟩ | ⟨g, cap, cur, hv, _, hg, hnc, _⟩
    · exact absurd (List.eq_nil_of_length_eq_zero h0) hne
    subst hv
    have hpc : p + c + n ≤ xs.length := by omega
    clear c2
    go_enter Try.func44, Try.ntmps44
    go_wp2_with fail
    refine (mark_any b _ xs p _ hr).mono ?_
    rintro e w1 ⟨rfl, rfl⟩
    go_wp2_with fail
    refine hcnt.out.mono ?_
    rintro e w2 ⟨rfl, q, ⟨hr2, hf2⟩, hq⟩
    obtain rfl := hq rfl
    dsimp only at hr2
    have hf3 := hf1.trans hf2 (fun _ _ h => h)
    clear hcnt hq hmk hr1 hf1 hf2 hr
    have HQ : ∃ q, Hid (p + c = q) := ⟨_, rfl⟩
    obtain ⟨q, HQ⟩ := HQ
    rw [HQ.out] at hr2 hpc
    obtain ⟨hc0, hc1, hz0, hz1⟩ := hr2.cells
    have hset := rd_set1 hr2 hpc
    rw [show ((q + n : Nat) : Int) = (q : Int) + (n : Int) from by omega] at hset
    go_wp2_with fail
    generalize w2.setCell ⟨b, 1, none⟩ (.int .i64 ((q : Int) + (n : Int))) = w3 at *
    obtain ⟨hr3, hf4⟩ := hset
    obtain ⟨hd0, hd1, _, _⟩ := hr3.cells
    have hcv : ∀ m, (convert 25 9 (.slice (if cap = q then some ⟨g, 0, none⟩ else some ⟨g, q, none⟩) (((q : Int) + (n : Int)).toNat - q) (cap - q))).run Try.prog (w3.drewN m) = .ok (.string ⟨((xs.drop q).take n).toArray⟩) (w3.drewN m) := fun m => text_conv hnc (hr3.drewN m).row hpc
    have b1 : (0 : Int) ≤ (q : Int) := by omega
    have b2 : (q : Int) ≤ (q : Int) + (n : Int) := by omega
    have b3 : (q : Int) + (n : Int) ≤ (cap : Int) := by omega
    rw [show ((q + n : Nat) : Int) = (q : Int) + (n : Int) from by omega] at hd1
    clear hc0 hc1 hz0 hz1
    go_quiet (fail)
    go_wp2
    all_goals
      go_ret2
      try subst h
      have h5 := (hr3.drewN nq)
      have h6 := (hf3.trans hf4 (fun _ _ h => h)).drewN nq
      have e6 := HQ.out
      subst e6
      refine ⟨rfl, ?_, h6⟩
      rw [← Nat.add_assoc]; exact h5

end Go.Proofs.Ytchjkcghaddmhaa
