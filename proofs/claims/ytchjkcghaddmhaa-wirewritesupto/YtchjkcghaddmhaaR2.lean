/- The reader comes back; bytes are read as one number. -/
import Derived.Test.YtchjkcghaddmhaaR1
import Derived.Laws.BitsAllLaws
namespace Go.Proofs.Ytchjkcghaddmhaa
open Go.RowKit

set_option maxRecDepth 100000 in
set_option maxHeartbeats 1000000 in
theorem mark_any (b : Nat) (v : Value) (xs : List UInt8) (p : Nat) (w : World) (hr : Rd w b v xs p) :
    Calls Try.prog 66 #[.pointer (some ⟨b, 0, none⟩)] w fun e w' => e = .returned (.func (.func 69) #[] #[.pointer (some ⟨w.heap.size + 1, 0, none⟩), .pointer (some ⟨w.heap.size, 0, none⟩)]) ∧
      w' = (w.alloc (.cells #[.pointer (some ⟨b, 0, none⟩)] 44)).alloc (.cells #[v, .int .i64 (p : Int)] 93) := by
  obtain ⟨ao, cap, rfl⟩ := hr.slice
  obtain ⟨hc0, hc1, _, _⟩ := hr.cells
  have hmf : ∀ (fn : Fn) (first cap : Array Value) (w : World), (Instr.makeFunc fn first cap).run Try.prog w = .ok (.func fn first cap) w := fun _ _ _ _ => rfl
  have hbl := hr.lt
  have hne : ¬ w.heap.size = b := by omega
  go_enter Try.func66, Try.ntmps66
  go_wp2
  go_ret
  exact ⟨rfl, rfl⟩

theorem rd_set_blk {w : World} {b : Nat} {v : Value} {xs : List UInt8} {p q : Nat} (hr : Rd w b v xs q) :
    ((w.setCell ⟨b, 0, none⟩ v).setCell ⟨b, 1, none⟩ (.int .i64 (p : Int))).heap[b]? = some (.cells #[v, .int .i64 (p : Int)] 93 (0, 0)) := by
  have := hr.blk
  simp [World.setCell, Array.getElem?_modify, this]

/-- A new place is stored (whatever else is stored there again). -/
theorem rd_put {w w' : World} {b : Nat} {v : Value} {xs : List UInt8} {p q : Nat} (hr : Rd w b v xs q) (hp : p ≤ xs.length)
    (hb : w'.heap[b]? = some (.cells #[v, .int .i64 (p : Int)] 93 (0, 0))) (hf : Frm (fun k => k = b) w w') : RdOut w b v xs p w' :=
  ⟨⟨hb, hr.row.kept hf (fun g hg e => hr.ne (by rw [hg, e])), hp, hr.ne⟩, hf⟩

theorem rd_set {w : World} {b : Nat} {v : Value} {xs : List UInt8} {p q : Nat} (hr : Rd w b v xs q) (hp : p ≤ xs.length) :
    RdOut w b v xs p ((w.setCell ⟨b, 0, none⟩ v).setCell ⟨b, 1, none⟩ (.int .i64 (p : Int))) :=
  rd_put hr hp (rd_set_blk hr) (((Frm.refl (fun k => k = b) w).setCell ⟨b, 0, none⟩ (.inr rfl) v).setCell ⟨b, 1, none⟩ (.inr rfl) _)

theorem rd_set1 {w : World} {b : Nat} {v : Value} {xs : List UInt8} {p q : Nat} (hr : Rd w b v xs q) (hp : p ≤ xs.length) :
    RdOut w b v xs p (w.setCell ⟨b, 1, none⟩ (.int .i64 (p : Int))) :=
  rd_put hr hp (by have := hr.blk; simp [World.setCell, Array.getElem?_modify, this]) ((Frm.refl (fun k => k = b) w).setCell ⟨b, 1, none⟩ (.inr rfl) _)

/-- What the closure holds. -/
structure Mk (w : World) (c a b : Nat) (v : Value) (p : Nat) : Prop where
  ptr : w.heap[a]? = some (.cells #[.pointer (some ⟨b, 0, none⟩)] 44 (0, 0))
  was : w.heap[c]? = some (.cells #[v, .int .i64 (p : Int)] 93 (0, 0))
  ca : c ≠ b
  aa : a ≠ b

set_option maxRecDepth 100000 in
set_option maxHeartbeats 1000000 in
theorem back_any (a b c : Nat) (v : Value) (xs : List UInt8) (p q : Nat) (w : World) (hr : Rd w b v xs q) (hp : p ≤ xs.length) (hm : Mk w c a b v p) :
    Calls Try.prog 69 #[.pointer (some ⟨c, 0, none⟩), .pointer (some ⟨a, 0, none⟩)] w fun e w' => e = .returned (.tuple #[]) ∧ RdOut w b v xs p w' := by
  obtain ⟨ao, cap, rfl⟩ := hr.slice
  obtain ⟨hc0, hc1, hf0, hf1⟩ := hr.cells
  have hca : w.cell? ⟨a, 0, none⟩ = some (.pointer (some ⟨b, 0, none⟩)) := by simp [World.cell?, hm.ptr]
  have hcc0 : w.cell? ⟨c, 0, none⟩ = some (.slice ao xs.length cap) := by simp [World.cell?, hm.was]
  have hcc1 : w.cell? ⟨c, 1, none⟩ = some (.int .i64 (p : Int)) := by simp [World.cell?, hm.was]
  go_enter Try.func69, Try.ntmps69
  go_wp2
  go_end0
  exact ⟨rfl, rd_set hr hp⟩

/-- Bytes as one number, the highest first. -/
def val (l : List UInt8) : Int := l.foldl (fun a c => a * 256 + (c.toNat : Int)) 0

theorem val_snoc (l : List UInt8) (c : UInt8) : val (l ++ [c]) = val l * 256 + (c.toNat : Int) := by simp [val]

/-- 256 to a power. -/
def pw : Nat → Int
  | 0 => 1
  | n + 1 => 256 * pw n

theorem pw_pos : ∀ n, 0 < pw n
  | 0 => by decide
  | n + 1 => by have := pw_pos n; simp only [pw]; omega

theorem pw_mono : ∀ (k n : Nat), pw n ≤ pw (n + k)
  | 0, n => Int.le_refl _
  | k + 1, n => by
    have h1 := pw_mono k n
    have h2 := pw_pos (n + k)
    have e : pw (n + (k + 1)) = 256 * pw (n + k) := rfl
    omega

theorem val_bd : ∀ (l : List UInt8) (a : Int), 0 ≤ a → 0 ≤ l.foldl (fun a c => a * 256 + (c.toNat : Int)) a ∧ l.foldl (fun a c => a * 256 + (c.toNat : Int)) a < (a + 1) * pw l.length
  | [], a, h => by simp only [List.foldl_nil, List.length_nil, pw]; omega
  | c :: l, a, h => by
    have hc := c.toNat_lt
    have ih := val_bd l (a * 256 + (c.toNat : Int)) (by omega)
    simp only [List.foldl_cons, List.length_cons, pw]
    refine ⟨ih.1, Int.lt_of_lt_of_le ih.2 ?_⟩
    rw [← Int.mul_assoc]
    exact Int.mul_le_mul_of_nonneg_right (by omega) (Int.le_of_lt (pw_pos _))

theorem val_nonneg (l : List UInt8) : 0 ≤ val l := (val_bd l 0 (by omega)).1

theorem val_lt (l : List UInt8) (n : Nat) (h : l.length ≤ n) : val l < pw n := by
  have h1 := (val_bd l 0 (by omega)).2
  have h2 := pw_mono (n - l.length) l.length
  rw [show l.length + (n - l.length) = n from by omega] at h2
  unfold val
  omega

theorem val7 (l : List UInt8) (h : l.length ≤ 7) : val l ≤ 72057594037927935 := by
  have := val_lt l 7 h
  have e : pw 7 = 72057594037927936 := by decide
  omega
theorem val8 (l : List UInt8) (h : l.length ≤ 8) : val l ≤ 18446744073709551615 := by
  have := val_lt l 8 h
  have e : pw 8 = 18446744073709551616 := by decide
  omega

/-- 'x <<= 8; x |= c'. -/
theorem or_byte (y : Int) (c : UInt8) (h0 : 0 ≤ y) (h1 : y ≤ 72057594037927935) : bits .or .u64 (y * 256) (c.toNat : Int) = y * 256 + (c.toNat : Int) := by
  have hc := c.toNat_lt
  have h := u64_or (y * 256) (c.toNat : Int) (by omega) (by omega) (by omega) (by omega)
  rw [h]
  have e : (y * 256).toNat = 2 ^ 8 * y.toNat := by omega
  rw [e, Int.toNat_natCast, ← Nat.two_pow_add_eq_or_of_lt (by omega)]
  omega

theorem take_drop_snoc (xs : List UInt8) (p k : Nat) (h : p + k < xs.length) : (xs.drop p).take (k + 1) = (xs.drop p).take k ++ [xs[p + k]] := by
  rw [List.take_succ_eq_append_getElem (by rw [List.length_drop]; omega), List.getElem_drop]

theorem row_cell {w : World} {base : Nat} {r : Option Nat} {g n cap : Nat} {xs : List UInt8} (h : Row w base (.slice (some ⟨g, 0, none⟩) n cap) r xs) (i : Nat) (hi : i < xs.length) :
    w.cell? ⟨g, i, none⟩ = some (.int .u8 (xs[i].toNat : Int)) := by
  have := h.2.cells (g := g) rfl i (byteV xs[i]) (by simp [hi])
  rw [Addr.add_lit, Nat.zero_add] at this
  exact this

set_option maxRecDepth 100000 in
set_option maxHeartbeats 1000000 in
theorem rhigh_end (b : Nat) (v : Value) (xs : List UInt8) (p n : Nat) (w : World) (hr : Rd w b v xs p) (hlen : xs.length ≤ 900000000000) (hn : xs.length < p + n) :
    Calls Try.prog 68 #[.pointer (some ⟨b, 0, none⟩), .int .i64 (n : Int)] w fun e w' => e = .returned (.tuple #[.int .u64 0, .int .i64 110]) ∧ ∃ k, w' = w.drewN k := by
  have hle := hr.le
  have hd : (xs.length : Int) - (p : Int) < (n : Int) := by omega
  go_enter Try.func68, Try.ntmps68
  go_wp2_with fail
  refine (rleft_any b v xs p _ hr hlen).mono ?_
  rintro e w1 ⟨rfl, k, rfl⟩
  go_wp2
  go_ret2
  exact ⟨rfl, _, rfl⟩

set_option maxRecDepth 100000 in
set_option maxHeartbeats 2000000 in
theorem rhigh_any (b : Nat) (v : Value) (xs : List UInt8) (p n : Nat) (w : World) (hr : Rd w b v xs p) (hlen : xs.length ≤ 900000000000) (hn0 : 1 ≤ n) (hn : p + n ≤ xs.length) (hn2 : n ≤ 8) :
    Calls Try.prog 68 #[.pointer (some ⟨b, 0, none⟩), .int .i64 (n : Int)] w fun e w' => e = .returned (.tuple #[.int .u64 (val ((xs.drop p).take n)), .int .i64 0]) ∧ RdOut w b v xs (p + n) w' := by
  have hle := hr.le
  have hd : ¬ (xs.length : Int) - (p : Int) < (n : Int) := by omega
  rcases hr.row.2.2 with ⟨_, h0⟩ | ⟨g, cap, cur, hv, _, hg, hnc, _⟩
  · omega
  subst hv
  go_enter Try.func68, Try.ntmps68
  go_wp2_with fail
  refine (rleft_any b _ xs p _ hr hlen).mono ?_
  rintro e w1 ⟨rfl, k, rfl⟩
  have hr1 := hr.drewN k
  have hf1 : Frm (fun j => j = b) w (w.drewN k) := (Frm.refl _ w).drewN k
  generalize w.drewN k = w1 at *
  obtain ⟨hc0, hc1, hz0, hz1⟩ := hr1.cells
  have b1 : (0 : Int) ≤ (p : Int) := by omega
  have b2 : (p : Int) ≤ (p : Int) + (n : Int) := by omega
  have b3 : (p : Int) + (n : Int) ≤ (cap : Int) := by omega
  go_wp2_with fail
  go_quiet (fail)
  have hr2 := hr1.drewN nq
  have hf2 : Frm (fun j => j = b) w (w1.drewN nq) := hf1.drewN nq
  go_wp2_with fail
  generalize w1.drewN nq = w2 at *
  clear hc0 hc1 hz0 hz1 hr1 hf1 hr
  obtain ⟨hc0, hc1, hz0, hz1⟩ := hr2.cells
  go_loop [6, 8, 29] (fun x _ i => ∃ k : Nat, k ≤ n ∧ i = .int .i64 (k : Int) ∧ x = .int .u64 (val ((xs.drop p).take k))) (fun _ _ i => n - (intOf i).toNat)
  case atStart => exact ⟨0, Nat.zero_le _, rfl, by simp [val]⟩
  case round =>
    obtain ⟨k, hk, rfl, rfl⟩ := hrel
    by_cases hlt : k < n
    · have hcell := row_cell hr2.row (p + k) (by omega)
      have hsn := take_drop_snoc xs p k (by omega)
      have hv0 := val_nonneg ((xs.drop p).take k)
      have hv7 := val7 ((xs.drop p).take k) (by rw [List.length_take]; omega)
      have hor := or_byte (val ((xs.drop p).take k)) xs[p + k] hv0 hv7
      have hvs := val_snoc ((xs.drop p).take k) xs[p + k]
      rw [← hsn] at hvs
      generalize val ((xs.drop p).take k) = y at *
      generalize hz : val ((xs.drop p).take (k + 1)) = z at *
      generalize xs[p + k] = c at *
      have HZ : Hid (val ((xs.drop p).take (k + 1)) = z) := hz
      have HV : Hid (z = y * 256 + (c.toNat : Int)) := hvs
      have hcb := c.toNat_lt
      clear hz hvs hsn
      go_wp2
      go_round
      case rel => exact ⟨k + 1, by omega, by go_num, by rw [HZ.out, HV.out]⟩
      case measure => simp [intOf]; omega
    · obtain rfl : k = n := by omega
      go_wp2
      go_ret2
      exact ⟨rfl, RdOut.next hf2 (rd_set1 hr2 hn)⟩

end Go.Proofs.Ytchjkcghaddmhaa
