/- A number is read. -/
import Derived.Test.YtchjkcghaddmhaaR2
namespace Go.Proofs.Ytchjkcghaddmhaa
open Go.RowKit

theorem Mk.kept {w w' : World} {c a b : Nat} {v : Value} {p : Nat} (h : Mk w c a b v p) (hf : Frm (fun k => k = b) w w') : Mk w' c a b v p :=
  ⟨by rw [hf.block a (Array.getElem?_eq_some_iff.1 h.ptr).1 h.aa]; exact h.ptr, by rw [hf.block c (Array.getElem?_eq_some_iff.1 h.was).1 h.ca]; exact h.was, h.ca, h.aa⟩

theorem mk_new {w : World} {b : Nat} {v : Value} {xs : List UInt8} {p : Nat} (hr : Rd w b v xs p) :
    Mk ((w.alloc (.cells #[.pointer (some ⟨b, 0, none⟩)] 44)).alloc (.cells #[v, .int .i64 (p : Int)] 93)) (w.heap.size + 1) w.heap.size b v p ∧
    RdOut w b v xs p ((w.alloc (.cells #[.pointer (some ⟨b, 0, none⟩)] 44)).alloc (.cells #[v, .int .i64 (p : Int)] 93)) := by
  have hb := hr.lt
  have hf : Frm (fun _ => False) w ((w.alloc (.cells #[.pointer (some ⟨b, 0, none⟩)] 44)).alloc (.cells #[v, .int .i64 (p : Int)] 93)) := ((Frm.refl _ _).alloc _).alloc _
  refine ⟨⟨?_, ?_, by omega, by omega⟩, hr.kept hf (fun h => h) (fun _ _ h => h), hf.mono (fun _ _ h => h.elim)⟩
  · rw [Below.heap_alloc _ _ _ (by simp)]; exact heap_alloc_new w _
  · have := heap_alloc_new (w.alloc (.cells #[.pointer (some ⟨b, 0, none⟩)] 44)) (.cells #[v, .int .i64 (p : Int)] 93)
    simpa using this

theorem rhigh_int (b : Nat) (v : Value) (xs : List UInt8) (p : Nat) (n : Int) (w : World) (hr : Rd w b v xs p) (hlen : xs.length ≤ 900000000000) (hn0 : 1 ≤ n) (hn : p + n ≤ xs.length) (hn2 : n ≤ 8) :
    Calls Try.prog 68 #[.pointer (some ⟨b, 0, none⟩), .int .i64 n] w fun e w' => e = .returned (.tuple #[.int .u64 (val ((xs.drop p).take n.toNat)), .int .i64 0]) ∧ RdOut w b v xs (p + n.toNat) w' := by
  have h := rhigh_any b v xs p n.toNat w hr hlen (by omega) (by omega) (by omega)
  rw [show ((n.toNat : Nat) : Int) = n from by omega] at h
  exact h

theorem rhigh_int_end (b : Nat) (v : Value) (xs : List UInt8) (p : Nat) (n : Int) (w : World) (hr : Rd w b v xs p) (hlen : xs.length ≤ 900000000000) (hn0 : 1 ≤ n) (hn : xs.length < p + n) :
    Calls Try.prog 68 #[.pointer (some ⟨b, 0, none⟩), .int .i64 n] w fun e w' => e = .returned (.tuple #[.int .u64 0, .int .i64 110]) ∧ RdOut w b v xs p w' := by
  have h := rhigh_end b v xs p n.toNat w hr hlen (by omega)
  rw [show ((n.toNat : Nat) : Int) = n from by omega] at h
  refine h.mono ?_
  rintro e w' ⟨rfl, k, rfl⟩
  exact ⟨rfl, hr.drewN k, (Frm.refl _ w).drewN k⟩

/-- A number at the head of some bytes: its value, the error, how many bytes are read. -/
def rdNum : List UInt8 → Int × Int × Nat
  | [] => (0, 110, 0)
  | c :: l => if c.toNat ≤ 247 then (c.toNat, 0, 1) else if l.length < c.toNat - 247 then (0, 110, 0)
    else if sz (val (l.take (c.toNat - 247))).toNat = 1 + (c.toNat - 247) then (val (l.take (c.toNat - 247)), 0, 1 + (c.toNat - 247)) else (0, 111, 0)

theorem drop_cons {xs l : List UInt8} {p : Nat} {c : UInt8} (h : xs.drop p = c :: l) : p < xs.length ∧ xs.drop (p + 1) = l ∧ l.length + p + 1 = xs.length := by
  have h1 := congrArg List.length h
  simp only [List.length_drop, List.length_cons] at h1
  refine ⟨by omega, ?_, by omega⟩
  have : xs.drop (p + 1) = (xs.drop p).drop 1 := by rw [List.drop_drop]
  rw [this, h]; rfl

/-- What a reader's call that answers a number and an error leaves. -/
def RdNum (w : World) (b : Nat) (v : Value) (xs : List UInt8) (p : Nat) (t : Int × Int × Nat) (e : Ending) (w' : World) : Prop :=
  e = .returned (.tuple #[.int .u64 t.1, .int .i64 t.2.1]) ∧ RdOut w b v xs (p + t.2.2) w'

set_option maxRecDepth 100000 in
set_option maxHeartbeats 2000000 in
theorem rnumber_end (b : Nat) (v : Value) (xs : List UInt8) (p : Nat) (w : World) (hr : Rd w b v xs p) (hlen : xs.length ≤ 900000000000) (h : xs.drop p = []) :
    Calls Try.prog 40 #[.pointer (some ⟨b, 0, none⟩)] w fun e w' => RdNum w b v xs p (0, 110, 0) e w' := by
  have hle := hr.le
  have hl := congrArg List.length h
  simp only [List.length_drop, List.length_nil] at hl
  obtain ⟨hm, hr1, hf1⟩ := mk_new hr
  go_enter Try.func40, Try.ntmps40
  go_wp2_with fail
  refine (mark_any b v xs p _ hr).mono ?_
  rintro e w1 ⟨rfl, rfl⟩
  go_wp2_with fail
  refine (rhigh_int_end b v xs p 1 _ hr1 hlen (by omega) (by omega)).mono ?_
  rintro e w2 ⟨rfl, hr2, hf2⟩
  go_wp2
  go_ret2
  exact ⟨rfl, hr2, hf1.trans hf2 (fun _ _ h => h)⟩

set_option maxRecDepth 100000 in
set_option maxHeartbeats 2000000 in
theorem rnumber_one (b : Nat) (v : Value) (xs l : List UInt8) (c : UInt8) (p : Nat) (w : World) (hr : Rd w b v xs p) (hlen : xs.length ≤ 900000000000) (h : xs.drop p = c :: l) (hc : c.toNat ≤ 247) :
    Calls Try.prog 40 #[.pointer (some ⟨b, 0, none⟩)] w fun e w' => RdNum w b v xs p (c.toNat, 0, 1) e w' := by
  have hle := hr.le
  obtain ⟨hlt, hd, hl⟩ := drop_cons h
  have hval : Hid (val ((xs.drop p).take (Int.toNat 1)) = (c.toNat : Int)) := by show val ((xs.drop p).take (Int.toNat 1)) = (c.toNat : Int); rw [h]; simp [val]
  obtain ⟨hm, hr1, hf1⟩ := mk_new hr
  clear h hd
  go_enter Try.func40, Try.ntmps40
  go_wp2_with fail
  refine (mark_any b v xs p _ hr).mono ?_
  rintro e w1 ⟨rfl, rfl⟩
  go_wp2_with fail
  refine (rhigh_int b v xs p 1 _ hr1 hlen (by omega) (by omega) (by omega)).mono ?_
  rintro e w2 ⟨rfl, hr2, hf2⟩
  rw [hval.out]
  go_wp2
  go_ret2
  exact ⟨rfl, hr2, hf1.trans hf2 (fun _ _ h => h)⟩

set_option maxRecDepth 100000 in
set_option maxHeartbeats 2000000 in
theorem rnumber_short (b : Nat) (v : Value) (xs l : List UInt8) (c : UInt8) (p : Nat) (w : World) (hr : Rd w b v xs p) (hlen : xs.length ≤ 900000000000) (h : xs.drop p = c :: l) (hc : ¬ c.toNat ≤ 247) (hs : l.length < c.toNat - 247) :
    Calls Try.prog 40 #[.pointer (some ⟨b, 0, none⟩)] w fun e w' => RdNum w b v xs p (0, 110, 0) e w' := by
  have hle := hr.le
  obtain ⟨hlt, hd, hl⟩ := drop_cons h
  have hcb := c.toNat_lt
  have hval : Hid (val ((xs.drop p).take (Int.toNat 1)) = (c.toNat : Int)) := by show val ((xs.drop p).take (Int.toNat 1)) = (c.toNat : Int); rw [h]; simp [val]
  obtain ⟨hm, hr1, hf1⟩ := mk_new hr
  clear h hd
  go_enter Try.func40, Try.ntmps40
  go_wp2_with fail
  refine (mark_any b v xs p _ hr).mono ?_
  rintro e w1 ⟨rfl, rfl⟩
  go_wp2_with fail
  refine (rhigh_int b v xs p 1 _ hr1 hlen (by omega) (by omega) (by omega)).mono ?_
  rintro e w2 ⟨rfl, hr2, hf2⟩
  rw [hval.out]
  have hm2 := hm.kept hf2
  have hf3 := hf1.trans hf2 (fun _ _ h => h)
  clear hm hr1 hf1 hf2
  go_wp2_with fail
  refine (rhigh_int_end b v xs _ _ _ hr2 hlen (by omega) (by omega)).mono ?_
  rintro e w3 ⟨rfl, hr3, hf4⟩
  have hm3 := hm2.kept hf4
  go_wp2_with fail
  refine (back_any _ b _ v xs p _ _ hr3 hle hm3).mono ?_
  rintro e w4 ⟨rfl, hr4, hf5⟩
  go_wp2
  go_ret2
  exact ⟨rfl, hr4, (hf3.trans hf4 (fun _ _ h => h)).trans hf5 (fun _ _ h => h)⟩

set_option maxRecDepth 100000 in
set_option maxHeartbeats 2000000 in
theorem rnumber_form (b : Nat) (v : Value) (xs l : List UInt8) (c : UInt8) (p : Nat) (w : World) (hr : Rd w b v xs p) (hlen : xs.length ≤ 900000000000) (h : xs.drop p = c :: l) (hc : ¬ c.toNat ≤ 247) (hs : ¬ l.length < c.toNat - 247)
    (X : Int) (hX : X = val (l.take (c.toNat - 247))) (hz : sz X.toNat ≠ 1 + (c.toNat - 247)) :
    Calls Try.prog 40 #[.pointer (some ⟨b, 0, none⟩)] w fun e w' => RdNum w b v xs p (0, 111, 0) e w' := by
  have hle := hr.le
  obtain ⟨hlt, hd, hl⟩ := drop_cons h
  have hcb := c.toNat_lt
  have hval : Hid (val ((xs.drop p).take (Int.toNat 1)) = (c.toNat : Int)) := by show val ((xs.drop p).take (Int.toNat 1)) = (c.toNat : Int); rw [h]; simp [val]
  have hval2 : Hid (val ((xs.drop (p + Int.toNat 1)).take ((c.toNat : Int) - 247).toNat) = X) := by
    show val ((xs.drop (p + Int.toNat 1)).take ((c.toNat : Int) - 247).toNat) = X
    rw [show p + Int.toNat 1 = p + 1 from rfl, hd, show ((c.toNat : Int) - 247).toNat = c.toNat - 247 from by omega, hX]
  have hX0 : 0 ≤ X := by rw [hX]; exact val_nonneg _
  have hX1 : X ≤ 18446744073709551615 := by rw [hX]; exact val8 _ (by rw [List.length_take]; omega)
  have hZ : ((sz X.toNat : Int) != 1 + ((c.toNat : Int) - 247)) = true := by rw [bne_iff_ne]; omega
  obtain ⟨hm, hr1, hf1⟩ := mk_new hr
  clear h hd hX hz
  go_enter Try.func40, Try.ntmps40
  go_wp2_with fail
  refine (mark_any b v xs p _ hr).mono ?_
  rintro e w1 ⟨rfl, rfl⟩
  go_wp2_with fail
  refine (rhigh_int b v xs p 1 _ hr1 hlen (by omega) (by omega) (by omega)).mono ?_
  rintro e w2 ⟨rfl, hr2, hf2⟩
  rw [hval.out]
  have hm2 := hm.kept hf2
  have hf3 := hf1.trans hf2 (fun _ _ h => h)
  clear hm hr1 hf1 hf2
  go_wp2_with fail
  refine (rhigh_int b v xs _ _ _ hr2 hlen (by omega) (by omega) (by omega)).mono ?_
  rintro e w3 ⟨rfl, hr3, hf4⟩
  rw [hval2.out]
  have hm3 := hm2.kept hf4
  go_wp2_with fail
  refine (size_any X _ hX0 hX1).mono ?_
  rintro e w4 ⟨rfl, rfl⟩
  go_wp2_with fail
  refine (back_any _ b _ v xs p _ _ hr3 hle hm3).mono ?_
  rintro e w5 ⟨rfl, hr4, hf5⟩
  go_wp2
  go_ret2
  exact ⟨rfl, hr4, (hf3.trans hf4 (fun _ _ h => h)).trans hf5 (fun _ _ h => h)⟩

set_option maxRecDepth 100000 in
set_option maxHeartbeats 2000000 in
theorem rnumber_good (b : Nat) (v : Value) (xs l : List UInt8) (c : UInt8) (p : Nat) (w : World) (hr : Rd w b v xs p) (hlen : xs.length ≤ 900000000000) (h : xs.drop p = c :: l) (hc : ¬ c.toNat ≤ 247) (hs : ¬ l.length < c.toNat - 247)
    (X : Int) (hX : X = val (l.take (c.toNat - 247))) (hz : sz X.toNat = 1 + (c.toNat - 247)) :
    Calls Try.prog 40 #[.pointer (some ⟨b, 0, none⟩)] w fun e w' => RdNum w b v xs p (X, 0, 1 + (c.toNat - 247)) e w' := by
  have hle := hr.le
  obtain ⟨hlt, hd, hl⟩ := drop_cons h
  have hcb := c.toNat_lt
  have hval : Hid (val ((xs.drop p).take (Int.toNat 1)) = (c.toNat : Int)) := by show val ((xs.drop p).take (Int.toNat 1)) = (c.toNat : Int); rw [h]; simp [val]
  have hval2 : Hid (val ((xs.drop (p + Int.toNat 1)).take ((c.toNat : Int) - 247).toNat) = X) := by
    show val ((xs.drop (p + Int.toNat 1)).take ((c.toNat : Int) - 247).toNat) = X
    rw [show p + Int.toNat 1 = p + 1 from rfl, hd, show ((c.toNat : Int) - 247).toNat = c.toNat - 247 from by omega, hX]
  have hX0 : 0 ≤ X := by rw [hX]; exact val_nonneg _
  have hX1 : X ≤ 18446744073709551615 := by rw [hX]; exact val8 _ (by rw [List.length_take]; omega)
  have hZ : ((sz X.toNat : Int) != 1 + ((c.toNat : Int) - 247)) = false := by rw [bne_eq_false_iff_eq]; omega
  obtain ⟨hm, hr1, hf1⟩ := mk_new hr
  clear h hd hX hz
  go_enter Try.func40, Try.ntmps40
  go_wp2_with fail
  refine (mark_any b v xs p _ hr).mono ?_
  rintro e w1 ⟨rfl, rfl⟩
  go_wp2_with fail
  refine (rhigh_int b v xs p 1 _ hr1 hlen (by omega) (by omega) (by omega)).mono ?_
  rintro e w2 ⟨rfl, hr2, hf2⟩
  rw [hval.out]
  have hm2 := hm.kept hf2
  have hf3 := hf1.trans hf2 (fun _ _ h => h)
  clear hm hr1 hf1 hf2
  go_wp2_with fail
  refine (rhigh_int b v xs _ _ _ hr2 hlen (by omega) (by omega) (by omega)).mono ?_
  rintro e w3 ⟨rfl, hr3, hf4⟩
  rw [hval2.out]
  have hm3 := hm2.kept hf4
  go_wp2_with fail
  refine (size_any X _ hX0 hX1).mono ?_
  rintro e w4 ⟨rfl, rfl⟩
  go_wp2_with fail
  go_ret2
  refine ⟨rfl, ?_⟩
  rw [show p + Int.toNat 1 + ((c.toNat : Int) - 247).toNat = p + (1 + (c.toNat - 247)) from by omega] at hr3
  exact ⟨hr3, hf3.trans hf4 (fun _ _ h => h)⟩

theorem rnumber_any (b : Nat) (v : Value) (xs : List UInt8) (p : Nat) (w : World) (hr : Rd w b v xs p) (hlen : xs.length ≤ 900000000000) :
    Calls Try.prog 40 #[.pointer (some ⟨b, 0, none⟩)] w fun e w' => RdNum w b v xs p (rdNum (xs.drop p)) e w' := by
  cases h : xs.drop p with
  | nil => exact rnumber_end b v xs p w hr hlen h
  | cons c l =>
    by_cases h1 : c.toNat ≤ 247
    · rw [show rdNum (c :: l) = ((c.toNat : Int), 0, 1) from by simp only [rdNum]; rw [if_pos h1]]
      exact rnumber_one b v xs l c p w hr hlen h h1
    · by_cases h2 : l.length < c.toNat - 247
      · rw [show rdNum (c :: l) = (0, 110, 0) from by simp only [rdNum]; rw [if_neg h1, if_pos h2]]
        exact rnumber_short b v xs l c p w hr hlen h h1 h2
      · by_cases h3 : sz (val (l.take (c.toNat - 247))).toNat = 1 + (c.toNat - 247)
        · rw [show rdNum (c :: l) = (val (l.take (c.toNat - 247)), 0, 1 + (c.toNat - 247)) from by simp only [rdNum]; rw [if_neg h1, if_neg h2, if_pos h3]]
          exact rnumber_good b v xs l c p w hr hlen h h1 h2 _ rfl h3
        · rw [show rdNum (c :: l) = (0, 111, 0) from by simp only [rdNum]; rw [if_neg h1, if_neg h2, if_neg h3]]
          exact rnumber_form b v xs l c p w hr hlen h h1 h2 _ rfl h3

theorem take_any (b : Nat) (v : Value) (xs : List UInt8) (p : Nat) (w : World) (hr : Rd w b v xs p) (hlen : xs.length ≤ 900000000000) :
    Calls Try.prog 46 #[.pointer (some ⟨b, 0, none⟩)] w fun e w' => RdNum w b v xs p (rdNum (xs.drop p)) e w' := by
  go_enter Try.func46, Try.ntmps46
  go_wp2_with fail
  refine (rnumber_any b v xs p _ hr hlen).mono ?_
  rintro e w1 ⟨rfl, ho⟩
  go_wp2
  go_ret2
  exact ⟨rfl, ho⟩

end Go.Proofs.Ytchjkcghaddmhaa
