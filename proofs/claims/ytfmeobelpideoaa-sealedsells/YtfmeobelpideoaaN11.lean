/- The order of bids: walked. -/
import Derived.Test.YtfmeobelpideoaaN10
import Derived.Laws.MakeOwn
namespace Go.Proofs.Ytfmeobelpideoaa
open Go.RowKit Go.Lib

theorem info_int : (Try.prog.info? 3).map (fun i => (i.zero, i.bytes, i.size)) = some (some (.int .i64 0), 8, 1) := by kernel_rfl
theorem make_int (n : Nat) (hn : n ≤ 1048576) (w : World) : (Instr.makeSlice 32 (.int .i64 (n : Int)) (.int .i64 (n : Int))).run Try.prog w = .ok (.slice (some ⟨w.heap.size, 0, none⟩) n n) (w.alloc (.cells (Array.replicate n (Value.int .i64 0)) 3)) := by
  obtain ⟨i, hi, h2⟩ := Option.map_eq_some_iff.1 info_int
  simp only [Prod.mk.injEq] at h2
  obtain ⟨hz, hb, hs⟩ := h2
  have h := run_make (P := Try.prog) w 32 3 i (.int .i64 0) Try.underlying32 hi hz .i64 .i64 n n (by omega) (by omega) (by rw [hb]; omega) (by omega)
  rw [h, hs]
  simp only [Int.toNat_natCast, Nat.mul_one, made_ints]

/-- The first k places are laid. -/
def fl (k : Nat) : Dat := fun t => if t < k then t else 0
theorem OD.congr {w0 w : World} {blk n : Nat} {f g : Dat} (h : OD w0 blk n f w) (e : ∀ t, t < n → g t = f t) : OD w0 blk n g w := by
  have : dl n g = dl n f := by
    unfold dl
    apply List.map_congr_left
    intro t ht
    rw [e t (List.mem_range.1 ht)]
  exact ⟨by rw [this]; exact h.own, h.frm⟩
theorem OD.lay {w0 w : World} {blk n k : Nat} (h : OD w0 blk n (fl k) w) : OD w0 blk n (fl (k + 1)) (w.setCell ⟨blk, k, none⟩ (.int .i64 (k : Int))) := by
  refine ⟨?_, Frm.setCell h.frm ⟨blk, k, none⟩ (Or.inr rfl) _⟩
  have := h.own.set k (k : Int)
  have e : (dl n (fl k)).set k (k : Int) = dl n (fl (k + 1)) := by
    apply List.ext_getElem
    · simp [dl_len]
    · intro t h1 h2
      have ht : t < n := by rw [dl_len] at h2; exact h2
      rw [dl_at ht, List.getElem_set]
      unfold fl
      by_cases e1 : k = t
      · rw [if_pos e1, if_pos (by omega), e1]
      · rw [if_neg e1, dl_at ht]
        by_cases e2 : t < k
        · rw [if_pos e2, if_pos (by omega)]
        · rw [if_neg e2, if_neg (by omega)]
  rw [e] at this
  exact this
theorem OD.start (w : World) (n : Nat) : OD w w.heap.size n (fl 0) (w.alloc (.cells (Array.replicate n (Value.int .i64 0)) 3)) := by
  refine ⟨⟨?_⟩, (Frm.refl _ w).alloc _⟩
  rw [heap_new]
  congr 2
  apply Array.ext
  · simp [dl_len]
  · intro i h1 h2
    simp [dl, fl]

set_option maxRecDepth 100000 in
set_option maxHeartbeats 4000000 in
theorem order_any (ao : Option Addr) (cap : Nat) (L : List Sec) (w : World) (hS : SecC w ao L) (hl : L.length ≤ 300) (hlt : ∀ a, ao = some a → a.block < w.heap.size) :
    Calls Try.prog 10 #[.slice ao L.length cap] w fun e w' => ∃ b g, e = .returned (.slice (some ⟨b, 0, none⟩) L.length L.length) ∧ Own .i64 3 w' b (dl L.length g) ∧ Re 0 L.length (fun t => t) g ∧ Srt L g 0 L.length ∧ Old w w' ∧ w.heap.size ≤ b := by
  obtain ⟨n, hn⟩ : ∃ n, n = L.length := ⟨_, rfl⟩
  have kn := hid hn
  rw [← hn] at hl ⊢
  have hmk := make_int n (by omega)
  have hmf : ∀ (fn : Fn) (first cap : Array Value) (w : World), (Instr.makeFunc fn first cap).run Try.prog w = .ok (.func fn first cap) w := fun _ _ _ _ => rfl
  have kC : Hid (Cap (w.alloc (.cells #[.slice ao n cap] 22)) w.heap.size (w.heap.size + 1) ao cap L) := by
    have ho : Old w (w.alloc (.cells #[.slice ao n cap] 22)) := (Old.refl w).alloc _
    refine ⟨?_, fun i hi => ?_, by omega, fun a ha => by have := hlt a ha; omega, by omega⟩
    · rw [← hn]; exact new_cell _ _ _ _ _ rfl
    · obtain ⟨g, o, e, h1, h2⟩ := hS i hi
      exact ⟨g, o, e, ho.cell h1, ho.cell h2⟩
  have kO : Hid (Old w (w.alloc (.cells #[.slice ao n cap] 22))) := (Old.refl w).alloc _
  have kD := hid (OD.start (w.alloc (.cells #[.slice ao n cap] 22)) n)
  rw [alloc_size] at kD
  have hsz : (w.alloc (.cells #[.slice ao n cap] 22)).heap.size = w.heap.size + 1 := alloc_size _ _
  clear hS hn hlt
  go_enter Try.func10, Try.ntmps10
  go_wp2_with fail
  generalize w.alloc (.cells #[.slice ao n cap] 22) = W1 at *
  obtain ⟨blk, hblk⟩ : ∃ blk, blk = w.heap.size + 1 := ⟨_, rfl⟩
  rw [← hblk] at kC kD
  simp only [← hblk]
  have kblk := hid hblk
  clear hblk hsz
  go_loopw [4, 10] (fun _ t wr => ∃ k : Nat, k ≤ n ∧ t = .int .i64 (k : Int) ∧ Hid (OD W1 blk n (fl k) wr)) (fun _ t _ => n - (intOf t).toNat)
  case atStart => exact ⟨0, Nat.zero_le _, rfl, kD⟩
  case round =>
    clear kD
    obtain ⟨k, hk, rfl, hO⟩ := hrel
    by_cases hlt : k < n
    · have hlt' : (k : Int) < (n : Int) := by omega
      obtain ⟨d1, e1⟩ := hO.out.cell (i := k) hlt
      have hst := hid hO.out.lay
      clear hO
      go_wp2_with fail
      go_roundw
      case rel => exact ⟨k + 1, by omega, by go_num, hst⟩
      case measure => simp [intOf]; omega
    · obtain rfl : k = n := by omega
      have hlt' : ¬ (k : Int) < (k : Int) := by omega
      have kS := hid (sortStable_any W1 wr w.heap.size blk ao cap L k kC.out kn.out (hO.out.congr (fun t ht => by unfold fl; rw [if_pos ht])))
      clear hO
      go_wp2_with fail
      refine kS.out.mono ?_
      rintro e w2 ⟨rfl, g, o1, o2, o3⟩
      have kF : Hid (Own .i64 3 w2 blk (dl k g) ∧ Re 0 k (fun t => t) g ∧ Srt L g 0 k ∧ Old w w2 ∧ w.heap.size ≤ blk) := ⟨o1.own, o2, o3, Frm.trans kO.out o1.frm (fun i hi h => by have := kblk.out; omega), by have := kblk.out; omega⟩
      clear o1 o2 o3 kS
      go_wp2_with fail
      go_ret
      exact ⟨_, _, rfl, kF.out⟩
end Go.Proofs.Ytfmeobelpideoaa
