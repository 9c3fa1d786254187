/- What was written is read again. -/
import Derived.Test.YtchjkcghaddmhaaM2
import Derived.Test.YtchjkcghaddmhaaB4
namespace Go.Proofs.Ytchjkcghaddmhaa
open Go.RowKit

theorem rd_box {w : World} {b : Nat} {v : Value} {xs : List UInt8} {q : Nat} (hr : Rd w b v xs q) (o : Obj) : Rd (w.alloc o) b v xs q :=
  hr.kept ((Frm.refl (fun _ => False) w).alloc o) (fun h => h) (fun _ _ h => h)

theorem rd_unbox {w w' : World} {b : Nat} {v : Value} {xs : List UInt8} {q : Nat} {o : Obj} (h : RdOut (w.alloc o) b v xs q w') : RdOut w b v xs q w' :=
  RdOut.next ((Frm.refl _ w).alloc o) h

theorem box_kept {w w' : World} {b : Nat} {o : Obj} (hb : b < w.heap.size) (hf : Frm (fun k => k = b) (w.alloc o) w') : w'.heap[w.heap.size]? = some o := by
  rw [hf.block _ (by simp) (by omega)]
  exact heap_alloc_new w o

theorem RdOut.drewN {w w' : World} {b : Nat} {v : Value} {xs : List UInt8} {q : Nat} (h : RdOut w b v xs q w') (n : Nat) : RdOut w b v xs q (w'.drewN n) :=
  ⟨h.1.drewN n, h.2.drewN n⟩

theorem bytes_eta (s : ByteArray) : (⟨s.data.toList.toArray⟩ : ByteArray) = s := by cases s; simp

set_option maxRecDepth 100000 in
set_option maxHeartbeats 2000000 in
theorem back_1 (b : Nat) (v : Value) (xs : List UInt8) (q : Nat) (p : PutV) (rest : List UInt8) (w : World) (hr : Rd w b v xs q) (hlen : xs.length ≤ 900000000000) (hk : p.kind = 1) (hx : p.x < 18446744073709551616) (hd : xs.drop q = putF p ++ rest) :
    Calls Try.prog 21 #[.pointer (some ⟨b, 0, none⟩), .agg p.cells] w fun e w' => e = .returned (.bool true) ∧ RdOut w b v xs (q + (putF p).length) w' := by
  have HP := hid (show putF p = numF p.x from by unfold putF; rw [if_pos hk])
  rw [HP.out] at hd ⊢
  clear HP
  have hbl := hr.lt
  obtain ⟨kind, x, s, aL, cL, L, aT, cT, T⟩ := p
  dsimp only [PutV.cells] at *
  subst hk
  have hn := hid (fun o => rnumber_any b v xs q (w.alloc o) (rd_box hr o) hlen)
  rw [hd, rdNum_num _ _ hx] at hn
  clear hd
  go_enter Try.func21, Try.ntmps21
  go_wp2_with fail
  refine (hn.out _).mono ?_
  rintro e w1 ⟨rfl, ho⟩
  dsimp only at ho
  have hb1 := box_cell (i := 1) (box_kept hbl ho.2) (by rfl)
  have hfin := hid (rd_unbox ho)
  clear ho hn
  go_wp2_with fail
  refine (num_any 0 _).mono ?_
  rintro e w2 ⟨rfl, rfl⟩
  go_wp2
  go_ret
  exact ⟨rfl, hfin.out⟩

set_option maxRecDepth 100000 in
set_option maxHeartbeats 2000000 in
theorem back_2 (b : Nat) (v : Value) (xs : List UInt8) (q : Nat) (p : PutV) (rest : List UInt8) (w : World) (hr : Rd w b v xs q) (hlen : xs.length ≤ 900000000000) (hk : p.kind = 2) (hd : xs.drop q = putF p ++ rest) :
    Calls Try.prog 21 #[.pointer (some ⟨b, 0, none⟩), .agg p.cells] w fun e w' => e = .returned (.bool true) ∧ RdOut w b v xs (q + (putF p).length) w' := by
  have HP := hid (show putF p = numF (Lib.zigzag (wrap64 p.x)) from by unfold putF; rw [if_neg (by omega), if_pos hk])
  rw [HP.out] at hd ⊢
  clear HP
  have hbl := hr.lt
  obtain ⟨kind, x, s, aL, cL, L, aT, cT, T⟩ := p
  dsimp only [PutV.cells] at *
  subst hk
  have hz : Lib.zigzag (wrap64 (x : Int)) < 18446744073709551616 := Lib.zigzag_lt (by unfold wrap64; omega) (by unfold wrap64; omega)
  have hn := hid (fun o => rsigned_any b v xs q (w.alloc o) (rd_box hr o) hlen)
  rw [hd, rdNum_num _ _ hz] at hn
  dsimp only at hn
  rw [unzig_zig] at hn
  clear hd
  go_enter Try.func21, Try.ntmps21
  go_wp2_with fail
  refine (hn.out _).mono ?_
  rintro e w1 ⟨rfl, ho⟩
  have hb1 := box_cell (i := 1) (box_kept hbl ho.2) (by rfl)
  have hfin := hid (rd_unbox ho)
  clear ho hn
  go_wp2_with fail
  refine (num_any 0 _).mono ?_
  rintro e w2 ⟨rfl, rfl⟩
  go_wp2
  go_ret
  exact ⟨rfl, hfin.out⟩

set_option maxRecDepth 100000 in
set_option maxHeartbeats 2000000 in
theorem back_3true (b : Nat) (v : Value) (xs : List UInt8) (q : Nat) (p : PutV) (rest : List UInt8) (w : World) (hr : Rd w b v xs q) (hlen : xs.length ≤ 900000000000) (hk : p.kind = 3) (ho2 : p.x % 2 = 1) (hd : xs.drop q = putF p ++ rest) :
    Calls Try.prog 21 #[.pointer (some ⟨b, 0, none⟩), .agg p.cells] w fun e w' => e = .returned (.bool true) ∧ RdOut w b v xs (q + (putF p).length) w' := by
  have HP := hid (show putF p = [1] from by unfold putF; rw [if_neg (by omega), if_neg (by omega), if_pos hk, if_pos ho2])
  rw [HP.out] at hd ⊢
  clear HP
  have hbl := hr.lt
  obtain ⟨kind, x, s, aL, cL, L, aT, cT, T⟩ := p
  dsimp only [PutV.cells] at *
  subst hk
  have hbx : (((x : Int) % 2) == 1) = true := by first | (rw [beq_iff_eq]; omega) | (rw [beq_eq_false_iff_ne]; omega)
  have hn := hid (fun o => rflag_any b v xs q (w.alloc o) (rd_box hr o) hlen)
  rw [hd, show rdFlag ([1] ++ rest) = (true, 0, 1) from by simp [rdFlag]] at hn
  dsimp only at hn
  clear hd ho2
  go_enter Try.func21, Try.ntmps21
  go_wp2_with fail
  refine (hn.out _).mono ?_
  rintro e w1 ⟨rfl, ho⟩
  have hb1 := box_cell (i := 1) (box_kept hbl ho.2) (by rfl)
  have hfin := hid (rd_unbox ho)
  clear ho hn
  go_wp2_with fail
  refine (num_any 0 _).mono ?_
  rintro e w2 ⟨rfl, rfl⟩
  go_wp2
  go_ret
  exact ⟨rfl, hfin.out⟩

set_option maxRecDepth 100000 in
set_option maxHeartbeats 2000000 in
theorem back_3false (b : Nat) (v : Value) (xs : List UInt8) (q : Nat) (p : PutV) (rest : List UInt8) (w : World) (hr : Rd w b v xs q) (hlen : xs.length ≤ 900000000000) (hk : p.kind = 3) (ho2 : ¬ p.x % 2 = 1) (hd : xs.drop q = putF p ++ rest) :
    Calls Try.prog 21 #[.pointer (some ⟨b, 0, none⟩), .agg p.cells] w fun e w' => e = .returned (.bool true) ∧ RdOut w b v xs (q + (putF p).length) w' := by
  have HP := hid (show putF p = [0] from by unfold putF; rw [if_neg (by omega), if_neg (by omega), if_pos hk, if_neg ho2])
  rw [HP.out] at hd ⊢
  clear HP
  have hbl := hr.lt
  obtain ⟨kind, x, s, aL, cL, L, aT, cT, T⟩ := p
  dsimp only [PutV.cells] at *
  subst hk
  have hbx : (((x : Int) % 2) == 1) = false := by first | (rw [beq_iff_eq]; omega) | (rw [beq_eq_false_iff_ne]; omega)
  have hn := hid (fun o => rflag_any b v xs q (w.alloc o) (rd_box hr o) hlen)
  rw [hd, show rdFlag ([0] ++ rest) = (false, 0, 1) from by simp [rdFlag]] at hn
  dsimp only at hn
  clear hd ho2
  go_enter Try.func21, Try.ntmps21
  go_wp2_with fail
  refine (hn.out _).mono ?_
  rintro e w1 ⟨rfl, ho⟩
  have hb1 := box_cell (i := 1) (box_kept hbl ho.2) (by rfl)
  have hfin := hid (rd_unbox ho)
  clear ho hn
  go_wp2_with fail
  refine (num_any 0 _).mono ?_
  rintro e w2 ⟨rfl, rfl⟩
  go_wp2
  go_ret
  exact ⟨rfl, hfin.out⟩

set_option maxRecDepth 100000 in
set_option maxHeartbeats 2000000 in
theorem back_4 (b : Nat) (v : Value) (xs : List UInt8) (q : Nat) (p : PutV) (rest : List UInt8) (w : World) (hr : Rd w b v xs q) (hlen : xs.length ≤ 900000000000) (hk : p.kind = 4) (hx : p.x < 18446744073709551616) (hd : xs.drop q = putF p ++ rest) :
    Calls Try.prog 21 #[.pointer (some ⟨b, 0, none⟩), .agg p.cells] w fun e w' => e = .returned (.bool true) ∧ RdOut w b v xs (q + (putF p).length) w' := by
  have HP := hid (show putF p = be 8 p.x from by unfold putF; rw [if_neg (by omega), if_neg (by omega), if_neg (by omega), if_pos hk])
  rw [HP.out] at hd ⊢
  clear HP
  have hbl := hr.lt
  obtain ⟨kind, x, s, aL, cL, L, aT, cT, T⟩ := p
  dsimp only [PutV.cells] at *
  subst hk
  have hn := hid (fun o => rreal_any b v xs q (w.alloc o) (rd_box hr o) hlen)
  rw [hd, rdReal_be _ hx] at hn
  dsimp only at hn
  have hfb := f64bits x
  rw [be_length]
  clear hd
  go_enter Try.func21, Try.ntmps21
  go_wp2_with fail
  refine (hn.out _).mono ?_
  rintro e w1 ⟨rfl, ho⟩
  have hb1 := box_cell (i := 1) (box_kept hbl ho.2) (by rfl)
  have hfin := hid (rd_unbox ho)
  clear ho hn
  go_wp2_with fail
  go_quiet ((go_at_call 22; exact Calls.quiet_of_same (num_any 0 _)))
  go_wp2
  go_ret
  exact ⟨rfl, hfin.out.drewN _⟩

set_option maxRecDepth 100000 in
set_option maxHeartbeats 2000000 in
theorem back_5 (b : Nat) (v : Value) (xs : List UInt8) (q : Nat) (p : PutV) (rest : List UInt8) (w : World) (hr : Rd w b v xs q) (hlen : xs.length ≤ 900000000000) (hk : p.kind = 5) (hs : p.s.size ≤ 300000000000) (hd : xs.drop q = putF p ++ rest) :
    Calls Try.prog 21 #[.pointer (some ⟨b, 0, none⟩), .agg p.cells] w fun e w' => e = .returned (.bool true) ∧ RdOut w b v xs (q + (putF p).length) w' := by
  have HP := hid (show putF p = textF p.s from by unfold putF; rw [if_neg (by omega), if_neg (by omega), if_neg (by omega), if_neg (by omega), if_pos hk])
  rw [HP.out] at hd ⊢
  clear HP
  have hbl := hr.lt
  obtain ⟨kind, x, s, aL, cL, L, aT, cT, T⟩ := p
  dsimp only [PutV.cells] at *
  subst hk
  have hn := hid (fun o => rtext_any b v xs q (s.size : Int) (w.alloc o) (rd_box hr o) hlen (by omega))
  rw [hd, rdText_text _ (by omega)] at hn
  dsimp only at hn
  rw [bytes_eta] at hn
  clear hd
  go_enter Try.func21, Try.ntmps21
  go_wp2_with fail
  refine (hn.out _).mono ?_
  rintro e w1 ⟨rfl, ho⟩
  have hb2 := box_cell (i := 2) (box_kept hbl ho.2) (by rfl)
  have hfin := hid (rd_unbox ho)
  clear ho hn
  go_wp2_with fail
  refine (num_any 0 _).mono ?_
  rintro e w2 ⟨rfl, rfl⟩
  go_wp2
  go_ret
  exact ⟨rfl, hfin.out⟩

theorem numsAt_c {w : World} {base : Nat} {ao : Option Addr} {n cap : Nat} {L : List Int} (h : NumsAt w base (.slice ao n cap) L) : NumsC w ao L := by
  intro i hi
  rcases h.2 with ⟨_, h0⟩ | ⟨g, cap', cur, hv, _⟩
  · omega
  · injection hv with h1 h2 h3
    subst h1
    refine ⟨g, 0, rfl, ?_⟩
    have := h.cells (g := g) rfl i (.int .u64 L[i]) (by simp [hi])
    rw [Addr.add_lit] at this
    exact this

set_option maxRecDepth 100000 in
set_option maxHeartbeats 2000000 in
theorem back_6 (b : Nat) (v : Value) (xs : List UInt8) (q : Nat) (p : PutV) (rest : List UInt8) (w : World) (hr : Rd w b v xs q) (hlen : xs.length ≤ 900000000000) (B : Nat) (hB : B ≤ b) (hk : p.kind = 6) (hN : NumsB w B p.aL p.L) (hL : ∀ x ∈ p.L, x < 18446744073709551616) (hs : p.L.length ≤ 1000000000) (hd : xs.drop q = putF p ++ rest) :
    Calls Try.prog 21 #[.pointer (some ⟨b, 0, none⟩), .agg p.cells] w fun e w' => e = .returned (.bool true) ∧ RdOut w b v xs (q + (putF p).length) w' := by
  have HP := hid (show putF p = numF p.L.length ++ numsF p.L from by unfold putF; rw [if_neg (by omega), if_neg (by omega), if_neg (by omega), if_neg (by omega), if_neg (by omega), if_pos hk])
  rw [HP.out] at hd ⊢
  clear HP
  have hbl := hr.lt
  obtain ⟨kind, x, s, aL, cL, L, aT, cT, T⟩ := p
  dsimp only [PutV.cells] at *
  subst hk
  have hn := hid (fun o => rtake_any b v xs q (L.length : Int) (w.alloc o) (rd_box hr o) hlen (by omega))
  rw [hd, rdTake_nums L hL (by omega)] at hn
  clear hd
  go_enter Try.func21, Try.ntmps21
  go_wp2_with fail
  refine (hn.out _).mono ?_
  rintro e w1 ⟨u, rfl, hu, ho⟩
  dsimp only at ho hu
  have hb3 := box_cell (i := 3) (box_kept hbl ho.2) (by rfl)
  obtain ⟨ao, cp, rfl⟩ := slice_of_owns hu
  have hnc := numsAt_c hu
  have hnc2 := nums_c hN (by omega) (((Frm.refl (fun k => k = b) w).alloc _).trans ho.2 (fun _ _ h => h)) (fun k hk => by omega)
  have hfin := hid (rd_unbox ho)
  rw [List.length_map]
  clear ho hn hu
  go_wp2_with fail
  refine (num_any 0 _).mono ?_
  rintro e w2 ⟨rfl, rfl⟩
  go_wp2_with fail
  refine (same_len ao aL cp cL L.length _ _ (by simp) hnc hnc2 (by omega)).mono ?_
  rintro e w3 ⟨rfl, n, rfl⟩
  go_wp2
  go_ret
  exact ⟨rfl, hfin.out.drewN _⟩

set_option maxRecDepth 100000 in
set_option maxHeartbeats 2000000 in
theorem back_0 (b : Nat) (v : Value) (xs : List UInt8) (q : Nat) (p : PutV) (w : World) (hr : Rd w b v xs q) (k1 : p.kind ≠ 1) (k2 : p.kind ≠ 2) (k3 : p.kind ≠ 3) (k4 : p.kind ≠ 4) (k5 : p.kind ≠ 5) (k6 : p.kind ≠ 6) (k7 : p.kind ≠ 7) :
    Calls Try.prog 21 #[.pointer (some ⟨b, 0, none⟩), .agg p.cells] w fun e w' => e = .returned (.bool true) ∧ RdOut w b v xs (q + (putF p).length) w' := by
  rw [show putF p = [] from by unfold putF; rw [if_neg k1, if_neg k2, if_neg k3, if_neg k4, if_neg k5, if_neg k6, if_neg k7]]
  obtain ⟨kind, x, s, aL, cL, L, aT, cT, T⟩ := p
  dsimp only [PutV.cells] at *
  have e1 : (kind == 1) = false := beq_eq_false_iff_ne.2 k1
  have e2 : (kind == 2) = false := beq_eq_false_iff_ne.2 k2
  have e3 : (kind == 3) = false := beq_eq_false_iff_ne.2 k3
  have e4 : (kind == 4) = false := beq_eq_false_iff_ne.2 k4
  have e5 : (kind == 5) = false := beq_eq_false_iff_ne.2 k5
  have e6 : (kind == 6) = false := beq_eq_false_iff_ne.2 k6
  have e7 : (kind == 7) = false := beq_eq_false_iff_ne.2 k7
  go_enter Try.func21, Try.ntmps21
  go_wp2
  go_ret
  exact ⟨rfl, rd_box hr _, (Frm.refl _ _).alloc _⟩

end Go.Proofs.Ytchjkcghaddmhaa
