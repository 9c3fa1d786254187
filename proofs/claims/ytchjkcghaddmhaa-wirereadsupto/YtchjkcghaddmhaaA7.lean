/- What is asked: texts, lists, the end. -/
import Derived.Test.YtchjkcghaddmhaaA6
namespace Go.Proofs.Ytchjkcghaddmhaa
open Go.RowKit

theorem rdTs_length (n : Nat) : ∀ l, (rdTs n l).1.length ≤ n := by
  induction n with
  | zero => intro l; simp [rdTs]
  | succ n ih =>
    intro l
    by_cases h : (rdW l).2.1 = 0
    · rw [rdTs_succ _ _ h]
      have := ih (l.drop (rdW l).2.2)
      simp only [List.length_cons]
      omega
    · rw [rdTs_err _ _ h]
      simp

theorem rdNums_length (n : Nat) : ∀ l, (rdNums n l).1.length ≤ n := by
  induction n with
  | zero => intro l; simp [rdNums]
  | succ n ih =>
    intro l
    by_cases h : (rdNum l).2.1 = 0
    · rw [rdNums_succ _ _ h]
      have := ih (l.drop (rdNum l).2.2)
      simp only [List.length_cons]
      omega
    · rw [rdNums_err _ _ h]
      simp

theorem rdTake_length (l : List UInt8) (most : Int) : (rdTake l most).1.length ≤ l.length := by
  unfold rdTake
  by_cases h : (rdCount l most).2.1 ≠ 0
  · rw [if_pos h]; simp
  · rw [if_neg h]
    have h1 := rdCount_facts l most (by omega)
    have h2 := rdNums_length (rdCount l most).1.toNat (l.drop (rdCount l most).2.2)
    unfold rdFin
    split
    · simp
    · dsimp only; omega

theorem rdTakeT_length (l : List UInt8) (most : Int) : (rdTakeT l most).1.length ≤ l.length := by
  unfold rdTakeT
  by_cases h : (rdCount l most).2.1 ≠ 0
  · rw [if_pos h]; simp
  · rw [if_neg h]
    have h1 := rdCount_facts l most (by omega)
    have h2 := rdTs_length (rdCount l most).1.toNat (l.drop (rdCount l most).2.2)
    unfold rdFinT
    split
    · simp
    · dsimp only; omega

set_option maxRecDepth 100000 in
set_option maxHeartbeats 4000000 in
theorem asks_5 {w0 : World} (b : Nat) (v : Value) (db : Nat) (ao : Option Addr) (cap : Nat) (xs : List UInt8) (p : Nat) (n : Int) (w : World) (hB : Both w0 w b v db ao cap xs p) (hlen : xs.length ≤ 900000000000) (hm : n ≤ 9223372036854775807) :
    Calls Try.prog 17 #[.pointer (some ⟨b, 0, none⟩), .pointer (some ⟨db, 0, none⟩), .agg #[.int .i64 5, .int .i64 n]] w fun e w' => AskOut w0 w b v db ao cap xs e w' := by
  have hB2 := fun o => hB.box o
  have hbl := hB.rd.lt
  have hn1 := hid (fun o => rtext_any b v xs p n (w.alloc o) (hB2 o).rd hlen hm)
  have hn2 := hid (fun w1 hr => refText_any (w0 := w0) db ao cap xs p n w1 hr hlen hm)
  generalize rdText (xs.drop p) n = t at *
  obtain ⟨x, er, c⟩ := t
  go_enter Try.func17, Try.ntmps17
  go_wp2_with fail
  refine (hn1.out _).mono ?_
  rintro e w1 ⟨rfl, ho⟩
  have hr1 := (hB2 _).one ho
  have hb1 := box_cell (i := 1) (box_kept hbl ho.2) (by rfl)
  go_wp2_with fail
  refine (hn2.out _ hr1).mono ?_
  rintro e w2 ⟨rfl, hr2, hf2⟩
  have hfin := hid (ask_out ((hB2 _).two ho hr2 hf2))
  clear hn1 hn2 hr1 hr2 hf2 ho hB2 hB hb1
  go_wp2_with fail
  refine (num_any _ _).mono ?_
  rintro e w3 ⟨rfl, rfl⟩
  go_wp2
  go_ret
  exact hfin.out

set_option maxRecDepth 100000 in
set_option maxHeartbeats 4000000 in
theorem asks_6 {w0 : World} (b : Nat) (v : Value) (db : Nat) (ao : Option Addr) (cap : Nat) (xs : List UInt8) (p : Nat) (n : Int) (w : World) (hB : Both w0 w b v db ao cap xs p) (hlen : xs.length ≤ 900000000000) (hm : n ≤ 9223372036854775807) :
    Calls Try.prog 17 #[.pointer (some ⟨b, 0, none⟩), .pointer (some ⟨db, 0, none⟩), .agg #[.int .i64 6, .int .i64 n]] w fun e w' => AskOut w0 w b v db ao cap xs e w' := by
  have hB2 := fun o => hB.box o
  have hbl := hB.rd.lt
  have hdl := hB.rr.lt
  have hle := hB.rd.le
  have hn1 := hid (fun o => rtake_any b v xs p n (w.alloc o) (hB2 o).rd hlen hm)
  have hn2 := hid (fun w1 hr => refNums_any (w0 := w0) db ao cap xs p n w1 hr hlen hm)
  have htl := rdTake_length (xs.drop p) n
  rw [List.length_drop] at htl
  generalize rdTake (xs.drop p) n = t at *
  obtain ⟨L, er, c⟩ := t
  dsimp only at htl
  go_enter Try.func17, Try.ntmps17
  go_wp2_with fail
  refine (hn1.out _).mono ?_
  rintro e w1 ⟨u, rfl, hu, ho⟩
  have hr1 := (hB2 _).one ho
  have hb1 := box_cell (i := 1) (box_kept hbl ho.2) (by rfl)
  obtain ⟨a1, c1, hua⟩ := slice_of_owns hu
  subst hua
  dsimp only at ho hu
  go_wp2_with fail
  refine (hn2.out _ hr1).mono ?_
  rintro e w2 ⟨u2, rfl, hu2, hr2, hf2⟩
  have hu3 := numsAt_c (base := (w.alloc _).heap.size) (owns_frm hu hf2 (fun g hg e => by simp at hg; omega))
  obtain ⟨a2, c2, hua2⟩ := slice_of_owns hu2
  subst hua2
  dsimp only at hr2 hu2
  have hu4 := numsAt_c hu2
  have hfin := hid (fun n => ask_out (pair_drewN ((hB2 _).two ho hr2 hf2) n))
  dsimp only
  clear hn1 hn2 hr1 hr2 hf2 ho hB2 hB hb1 hu hu2
  go_wp2_with fail
  refine (same_len a1 a2 c1 c2 L.length L _ rfl hu3 hu4 (by omega)).mono ?_
  rintro e w3 ⟨rfl, m, rfl⟩
  go_wp2_with fail
  refine (num_any _ _).mono ?_
  rintro e w3 ⟨rfl, rfl⟩
  go_wp2
  go_ret
  exact hfin.out _

set_option maxRecDepth 100000 in
set_option maxHeartbeats 4000000 in
theorem asks_7 {w0 : World} (b : Nat) (v : Value) (db : Nat) (ao : Option Addr) (cap : Nat) (xs : List UInt8) (p : Nat) (n : Int) (w : World) (hB : Both w0 w b v db ao cap xs p) (hlen : xs.length ≤ 900000000000) (hm : n ≤ 9223372036854775807) :
    Calls Try.prog 17 #[.pointer (some ⟨b, 0, none⟩), .pointer (some ⟨db, 0, none⟩), .agg #[.int .i64 7, .int .i64 n]] w fun e w' => AskOut w0 w b v db ao cap xs e w' := by
  have hB2 := fun o => hB.box o
  have hbl := hB.rd.lt
  have hdl := hB.rr.lt
  have hle := hB.rd.le
  have hn1 := hid (fun o => rtakeT_any b v xs p n (w.alloc o) (hB2 o).rd hlen hm)
  have hn2 := hid (fun w1 hr => refTexts_any (w0 := w0) db ao cap xs p n w1 hr hlen hm)
  have htl := rdTakeT_length (xs.drop p) n
  rw [List.length_drop] at htl
  generalize rdTakeT (xs.drop p) n = t at *
  obtain ⟨L, er, c⟩ := t
  dsimp only at htl
  go_enter Try.func17, Try.ntmps17
  go_wp2_with fail
  refine (hn1.out _).mono ?_
  rintro e w1 ⟨u, rfl, hu, ho⟩
  have hr1 := (hB2 _).one ho
  have hb1 := box_cell (i := 1) (box_kept hbl ho.2) (by rfl)
  obtain ⟨a1, c1, hua⟩ := slice_of_owns hu
  subst hua
  dsimp only at ho hu
  go_wp2_with fail
  refine (hn2.out _ hr1).mono ?_
  rintro e w2 ⟨u2, rfl, hu2, hr2, hf2⟩
  have hu3 := textsAt_c (base := (w.alloc _).heap.size) (owns_frm hu hf2 (fun g hg e => by simp at hg; omega))
  obtain ⟨a2, c2, hua2⟩ := slice_of_owns hu2
  subst hua2
  dsimp only at hr2 hu2
  have hu4 := textsAt_c hu2
  have hfin := hid (fun n => ask_out (pair_drewN ((hB2 _).two ho hr2 hf2) n))
  dsimp only
  clear hn1 hn2 hr1 hr2 hf2 ho hB2 hB hb1 hu hu2
  go_wp2_with fail
  refine (sameTexts_any a1 a2 c1 c2 L.length L _ rfl hu3 hu4 (by omega)).mono ?_
  rintro e w3 ⟨rfl, m, rfl⟩
  go_wp2_with fail
  refine (num_any _ _).mono ?_
  rintro e w3 ⟨rfl, rfl⟩
  go_wp2
  go_ret
  exact hfin.out _

set_option maxRecDepth 100000 in
set_option maxHeartbeats 4000000 in
theorem asks_8a {w0 : World} (b : Nat) (v : Value) (db : Nat) (ao : Option Addr) (cap : Nat) (xs : List UInt8) (p : Nat) (n : Int) (w : World) (hB : Both w0 w b v db ao cap xs p) (hlen : xs.length ≤ 900000000000) (hp : p < xs.length) :
    Calls Try.prog 17 #[.pointer (some ⟨b, 0, none⟩), .pointer (some ⟨db, 0, none⟩), .agg #[.int .i64 8, .int .i64 n]] w fun e w' => AskOut w0 w b v db ao cap xs e w' := by
  have hB2 := fun o => hB.box o
  have hle := hB.rd.le
  have hn1 := hid (fun o => rend_any b v xs p (w.alloc o) (hB2 o).rd hlen)
  rw [if_pos hp] at hn1
  have hn2 := hid (fun w1 hr => refLeft_any (w0 := w0) db ao cap xs p w1 hr hlen)
  have hd : ((xs.length : Int) - (p : Int) == 0) = false := by rw [beq_eq_false_iff_ne]; omega
  have hd2 : (0 : Int) < (xs.length : Int) - (p : Int) := by omega
  go_enter Try.func17, Try.ntmps17
  go_wp2_with fail
  refine (hn1.out _).mono ?_
  rintro e w1 ⟨rfl, m, rfl⟩
  have hB3 := (hB2 (.cells #[.int .i64 8, .int .i64 n] 51)).grow ((Frm.refl _ _).drewN m)
  go_wp2_with fail
  refine (num_any _ _).mono ?_
  rintro e w3 ⟨rfl, rfl⟩
  go_wp2_with fail
  refine (hn2.out _ hB3.rr).mono ?_
  rintro e w2 ⟨rfl, m2, rfl⟩
  have hfin := hid (fun k => ask_out (w := w) (o := .cells #[.int .i64 8, .int .i64 n] 51) (pair_drewN ⟨hB2 _, Frm.refl _ _⟩ k))
  clear hn1 hn2 hB2 hB hB3
  go_wp2
  go_ret
  exact hfin.out _

set_option maxRecDepth 100000 in
set_option maxHeartbeats 4000000 in
theorem asks_8b {w0 : World} (b : Nat) (v : Value) (db : Nat) (ao : Option Addr) (cap : Nat) (xs : List UInt8) (p : Nat) (n : Int) (w : World) (hB : Both w0 w b v db ao cap xs p) (hlen : xs.length ≤ 900000000000) (hp : ¬ p < xs.length) :
    Calls Try.prog 17 #[.pointer (some ⟨b, 0, none⟩), .pointer (some ⟨db, 0, none⟩), .agg #[.int .i64 8, .int .i64 n]] w fun e w' => AskOut w0 w b v db ao cap xs e w' := by
  have hB2 := fun o => hB.box o
  have hle := hB.rd.le
  have hn1 := hid (fun o => rend_any b v xs p (w.alloc o) (hB2 o).rd hlen)
  rw [if_neg hp] at hn1
  have hn2 := hid (fun w1 hr => refLeft_any (w0 := w0) db ao cap xs p w1 hr hlen)
  have hd : ((xs.length : Int) - (p : Int) == 0) = true := by rw [beq_iff_eq]; omega
  go_enter Try.func17, Try.ntmps17
  go_wp2_with fail
  refine (hn1.out _).mono ?_
  rintro e w1 ⟨rfl, m, rfl⟩
  have hB3 := (hB2 (.cells #[.int .i64 8, .int .i64 n] 51)).grow ((Frm.refl _ _).drewN m)
  go_wp2_with fail
  refine (num_any _ _).mono ?_
  rintro e w3 ⟨rfl, rfl⟩
  go_wp2_with fail
  refine (hn2.out _ hB3.rr).mono ?_
  rintro e w2 ⟨rfl, m2, rfl⟩
  have hfin := hid (fun k => ask_out (w := w) (o := .cells #[.int .i64 8, .int .i64 n] 51) (pair_drewN ⟨hB2 _, Frm.refl _ _⟩ k))
  clear hn1 hn2 hB2 hB hB3
  go_wp2
  go_ret
  exact hfin.out _

set_option maxRecDepth 100000 in
set_option maxHeartbeats 4000000 in
theorem asks_0 {w0 : World} (b : Nat) (v : Value) (db : Nat) (ao : Option Addr) (cap : Nat) (xs : List UInt8) (p : Nat) (kind n : Int) (w : World) (hB : Both w0 w b v db ao cap xs p) (k1 : kind ≠ 1) (k2 : kind ≠ 2) (k3 : kind ≠ 3) (k4 : kind ≠ 4) (k5 : kind ≠ 5) (k6 : kind ≠ 6) (k7 : kind ≠ 7) (k8 : kind ≠ 8) :
    Calls Try.prog 17 #[.pointer (some ⟨b, 0, none⟩), .pointer (some ⟨db, 0, none⟩), .agg #[.int .i64 kind, .int .i64 n]] w fun e w' => AskOut w0 w b v db ao cap xs e w' := by
  have e1 : (kind == 1) = false := beq_eq_false_iff_ne.2 k1
  have e2 : (kind == 2) = false := beq_eq_false_iff_ne.2 k2
  have e3 : (kind == 3) = false := beq_eq_false_iff_ne.2 k3
  have e4 : (kind == 4) = false := beq_eq_false_iff_ne.2 k4
  have e5 : (kind == 5) = false := beq_eq_false_iff_ne.2 k5
  have e6 : (kind == 6) = false := beq_eq_false_iff_ne.2 k6
  have e7 : (kind == 7) = false := beq_eq_false_iff_ne.2 k7
  have e8 : (kind == 8) = false := beq_eq_false_iff_ne.2 k8
  go_enter Try.func17, Try.ntmps17
  go_wp2
  go_ret
  exact ask_out ⟨hB.box _, Frm.refl _ _⟩

/-- Whatever is asked, both answer the same, and stand at one place. -/
theorem asks_any {w0 : World} (b : Nat) (v : Value) (db : Nat) (ao : Option Addr) (cap : Nat) (xs : List UInt8) (p : Nat) (kind n : Int) (w : World) (hB : Both w0 w b v db ao cap xs p) (hlen : xs.length ≤ 900000000000) (hm : n ≤ 9223372036854775807) :
    Calls Try.prog 17 #[.pointer (some ⟨b, 0, none⟩), .pointer (some ⟨db, 0, none⟩), .agg #[.int .i64 kind, .int .i64 n]] w fun e w' => AskOut w0 w b v db ao cap xs e w' := by
  by_cases k1 : kind = 1
  · subst k1; exact asks_1 b v db ao cap xs p n w hB hlen
  by_cases k2 : kind = 2
  · subst k2; exact asks_2 b v db ao cap xs p n w hB hlen
  by_cases k3 : kind = 3
  · subst k3; exact asks_3 b v db ao cap xs p n w hB hlen
  by_cases k4 : kind = 4
  · subst k4; exact asks_4 b v db ao cap xs p n w hB hlen
  by_cases k5 : kind = 5
  · subst k5; exact asks_5 b v db ao cap xs p n w hB hlen hm
  by_cases k6 : kind = 6
  · subst k6; exact asks_6 b v db ao cap xs p n w hB hlen hm
  by_cases k7 : kind = 7
  · subst k7; exact asks_7 b v db ao cap xs p n w hB hlen hm
  by_cases k8 : kind = 8
  · subst k8
    by_cases hp : p < xs.length
    · exact asks_8a b v db ao cap xs p n w hB hlen hp
    · exact asks_8b b v db ao cap xs p n w hB hlen hp
  exact asks_0 b v db ao cap xs p kind n w hB k1 k2 k3 k4 k5 k6 k7 k8

end Go.Proofs.Ytchjkcghaddmhaa
