/- Bytes are written over. -/
import Derived.Test.YtchjkcghaddmhaaR5
import Derived.Laws.OwnMore
namespace Go.Proofs.Ytchjkcghaddmhaa
open Go.RowKit

/-- Bytes written over stay as many, and nothing else turns. -/
def SpOut (w : World) (base : Nat) (v : Value) (r : Option Nat) (n : Nat) (w' : World) : Prop :=
  ∃ ys, ys.length = n ∧ Row w' base v r ys ∧ Frm (fun k => some k = r) w w'

theorem row_set {w : World} {base : Nat} {g n cap : Nat} {r : Option Nat} {ys : List UInt8} (h : Row w base (.slice (some ⟨g, 0, none⟩) n cap) r ys) (k : Nat) (hn : ys.length = n) :
    Row (w.setCell ⟨g, k, none⟩ (.int .u8 99)) base (.slice (some ⟨g, 0, none⟩) n cap) r (ys.set k 99) ∧ Frm (fun k => some k = r) w (w.setCell ⟨g, k, none⟩ (.int .u8 99)) := by
  subst hn
  obtain ⟨h1, h2⟩ := h
  obtain ⟨h3, _⟩ := h2.stored k (.int .u8 99)
  refine ⟨⟨h1, ?_⟩, (Frm.refl _ w).setCell _ (.inr h1) _⟩
  rw [List.length_set, List.map_set]
  exact h3

set_option maxRecDepth 100000 in
set_option maxHeartbeats 1000000 in
theorem spoil_any (v : Value) (base : Nat) (r : Option Nat) (xs : List UInt8) (w : World) (hrow : Row w base v r xs) (hlen : xs.length ≤ 900000000000) :
    Calls Try.prog 14 #[v] w fun e w' => e = .returned (.tuple #[]) ∧ SpOut w base v r xs.length w' := by
  obtain ⟨ao, cap, rfl⟩ := slice_of_owns hrow.2
  obtain ⟨n, hn⟩ : ∃ n, xs.length = n := ⟨_, rfl⟩
  rw [hn] at hrow hlen ⊢
  have hs : SpOut w base (.slice ao n cap) r n w := ⟨xs, hn, hrow, Frm.refl _ _⟩
  clear hrow hn
  go_enter Try.func14, Try.ntmps14
  go_wp2_with fail
  go_loopw [2] (fun i wr => ∃ k : Nat, k ≤ n ∧ i = .int .i64 (k : Int) ∧ SpOut w base (.slice ao n cap) r n wr) (fun i _ => n - (intOf i).toNat)
  case atStart => exact ⟨0, Nat.zero_le _, rfl, hs⟩
  case round =>
    clear hs
    obtain ⟨k, hk, rfl, ys, hys, hrow, hf⟩ := hrel
    by_cases hlt : k < n
    · rcases hrow.2.2 with ⟨_, h0⟩ | ⟨g, cap', cur, hv, _, hg, _⟩
      · omega
      · injection hv with h1 h2 h3
        subst h1
        clear h2 h3
        obtain ⟨z, hc⟩ : ∃ z, wr.cell? ⟨g, k, none⟩ = some (.int .u8 z) := ⟨_, row_cell hrow k (by omega)⟩
        have hfz : wr.frozen? ⟨g, k, none⟩ = false := by simp [World.frozen?, hg]
        have hst := hid (row_set hrow k hys)
        have HYS := hid hys
        clear hys
        go_wp2
        go_roundw
        case rel => exact ⟨k + 1, by omega, by go_num, ys.set k 99, by simpa using HYS.out, hst.out.1, hf.trans hst.out.2 (fun _ _ h => h)⟩
        case measure => simp [intOf]; omega
    · obtain rfl : k = n := by omega
      go_wp2
      go_end0
      exact ⟨rfl, ys, hys, hrow, hf⟩

end Go.Proofs.Ytchjkcghaddmhaa
