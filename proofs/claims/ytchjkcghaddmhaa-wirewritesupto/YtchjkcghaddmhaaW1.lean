/- The writer's bytes of one number, the highest first. -/
import Derived.Test.YtchjkcghaddmhaaProg
import Derived.Test.YtchjkcghaddmhaaBase
import Derived.Deep.DrawnRows
import Derived.KernelRfl
namespace Go.Proofs.Ytchjkcghaddmhaa
open Go.RowKit

/-- The lowest n bytes of a number, the highest first. -/
def be : Nat → Nat → List UInt8
  | 0, _ => []
  | n + 1, x => UInt8.ofNat (x / 256 ^ n) :: be n x

theorem be_length (n x : Nat) : (be n x).length = n := by
  induction n with
  | zero => rfl
  | succ n ih => simp [be, ih]

theorem Try.info5 : (Try.prog.info? 5).map (fun i => (i.zero, i.size, i.bytes)) = some (some (.int .u8 0), 1, 1) := by kernel_rfl

theorem be_snoc {ys xs : List UInt8} {m n X : Nat} (h : ys ++ be (m + 1) X = xs ++ be n X) : (ys ++ [UInt8.ofNat (X / 256 ^ m)]) ++ be m X = xs ++ be n X := by
  rw [← h]; simp [be]

theorem byte_shift (X m : Nat) : Value.int .u8 (IntKind.u8.wrap ((X : Int) / 2 ^ (8 * ((m + 1 : Nat) : Int) - 8).toNat)) = byteV (UInt8.ofNat (X / 256 ^ m)) := by
  have e : (8 * ((m + 1 : Nat) : Int) - 8).toNat = 8 * m := by omega
  rw [e, byteV]
  congr 1
  have e2 : (2 : Int) ^ (8 * m) = ((256 ^ m : Nat) : Int) := by
    rw [Int.pow_mul]; simp
  rw [e2, IntKind.wrap_u8]
  simp [UInt8.toNat_ofNat']

attribute [local go_sem ↓] Go.wp_at_zero Go.wp_at_succ

set_option maxRecDepth 100000 in
set_option maxHeartbeats 1000000 in
theorem high_any (b : Nat) (r : Option Nat) (xs : List UInt8) (X n : Nat) (w : World) (hw : Wr w b r xs) (hn : n ≤ 8) (hlen : xs.length + n ≤ 1000000000000) :
    Calls Try.prog 63 #[.pointer (some ⟨b, 0, none⟩), .int .u64 (X : Int), .int .i64 (n : Int)] w fun e w' => e = .returned (.tuple #[]) ∧ WrOut w b r (xs ++ be n X) w' := by
  obtain ⟨i0, hi0, hz0, hz1, hz2⟩ := info_parts Try.info5
  have hbw := hw.lt
  go_enter Try.func63, Try.ntmps63
  go_wp2_with fail
  go_loopw [6] (fun s wr => ∃ m : Nat, m ≤ n ∧ s = .int .i64 ((8 * m : Nat) : Int) ∧ ∃ ys, ys ++ be m X = xs ++ be n X ∧ WrOut w b r ys wr) (fun s _ => (intOf s).toNat)
  case atStart => exact ⟨n, Nat.le_refl _, by go_num, xs, rfl, r, hw, Frm.refl _ _, .inl rfl⟩
  case round =>
    obtain ⟨m, hm, rfl, ys, hys, r1, hw1, hf1, hr1⟩ := hrel
    have hys' : Hid (ys ++ be m X = xs ++ be n X) := hys
    clear hys
    rcases m with _ | m
    rotate_left
    · obtain ⟨v, hv, hrow1, hrow2⟩ := hw1
      obtain ⟨hc, hfz⟩ := cell_wr hv
      have hbr : b < wr.heap.size := (Array.getElem?_eq_some_iff.1 hv).1
      have hyl : ys.length ≤ xs.length + n := by have := congrArg List.length hys'.out; simp [be_length] at this; omega
      go_wp2_with fail
      go_region_law ((refine step_append_lies _ (by rfl) _ _ _ (by rfl) (b + 1) 5 i0 _ 1 1 Try.underlying25 hi0 hz0 hz1 hz2 rfl (by omega) v ys.length (ys.map byteV) (by rfl) ((hrow2.alloc _).drew) ⟨wr.heap.size, 0, none⟩ 1 1 [.int .u8 (IntKind.u8.wrap ((X : Int) / 2 ^ (8 * ((m + 1 : Nat) : Int) - 8).toNat))] (by rfl) (by rfl) (World.news_of_block (cs := #[.int .u8 (IntKind.u8.wrap ((X : Int) / 2 ^ (8 * ((m + 1 : Nat) : Int) - 8).toNat))]) (t := 5) (fr := (0, 0)) (heap_alloc_new wr _)) (by simp [Value.oneCell']) (by omega) (by unfold maxLen; omega) (by omega) (by simp; omega) (wr.heap.size + 1) (by simp) ?_; intro g cap w1 hown1 hgrow hat hlt1; obtain ⟨hc1, hfz1⟩ := cell_wr (wr_grown hv hrow2 (((Frm.refl _ _).alloc _).drew) hgrow)))
      all_goals
        rw [byte_shift] at hown1
        have hstep := wr_step (zs := [UInt8.ofNat (X / 256 ^ m)]) hf1 hr1 hv hrow1 hrow2 (((Frm.refl _ _).alloc _).drew) hgrow (by simp) hown1 hat (by omega)
        go_wp2
        go_roundw
        case rel => exact ⟨m, by omega, by go_num, _, be_snoc hys'.out, hstep⟩
        case measure => simp [intOf]; omega
    · have hnx := hys'.out
      go_wp2_with fail
      go_end0
      refine ⟨rfl, r1, ?_, hf1, hr1⟩
      simp [be] at hnx
      rw [← hnx]
      exact hw1

end Go.Proofs.Ytchjkcghaddmhaa
