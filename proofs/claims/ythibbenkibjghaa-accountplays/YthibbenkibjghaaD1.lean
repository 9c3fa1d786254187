/- The document's account in memory; Coins, New, Copy, All, At, Free: walked. -/
import Derived.Test.YthibbenkibjghaaA7
import Derived.Test.YthibbenkibjghaaA5
namespace Go.Proofs.Ythibbenkibjghaa
open Go.RowKit Go.Lib Go.Shelf Go.Maps
attribute [local go_sem] Oper.semAt_some

/-- Here a row of held coins lies. -/
def HRow (w : World) (k : Nat) : Prop := ∃ cur f, w.heap[k]? = some (.cells cur 27 f)
/-- The document's account. -/
structure Ra (w : World) (rb : Nat) (bud sp : Int) (L : List Hd) (ao : Option Addr) (cap : Nat) : Prop where
  blk : w.heap[rb]? = some (.cells #[.int .i64 bud, .int .i64 sp, .slice ao L.length cap] 73)
  hd : HdC w ao L
  row : ∀ a, ao = some a → HRow w a.block
theorem Ra.cells {w : World} {rb : Nat} {bud sp : Int} {L : List Hd} {ao : Option Addr} {cap : Nat} (h : Ra w rb bud sp L ao cap) : w.cell? ⟨rb, 0, none⟩ = some (.int .i64 bud) ∧ w.cell? ⟨rb, 1, none⟩ = some (.int .i64 sp) ∧ w.cell? ⟨rb, 2, none⟩ = some (.slice ao L.length cap) :=
  ⟨blk_cells h.blk rfl, blk_cells h.blk rfl, blk_cells h.blk rfl⟩
theorem HRow.lt {w : World} {k : Nat} (h : HRow w k) : k < w.heap.size := by
  obtain ⟨_, _, h⟩ := h
  exact (Array.getElem?_eq_some_iff.1 h).1
theorem HRow.frm {S : Nat → Prop} {w w' : World} {k : Nat} (h : HRow w k) (f : Frm S w w') (hS : ¬ S k) : HRow w' k := by
  obtain ⟨c, z, h⟩ := h
  exact ⟨c, z, by rw [f.block k (Array.getElem?_eq_some_iff.1 h).1 hS]; exact h⟩
theorem HdC.frm' {S : Nat → Prop} {w w' : World} {ao : Option Addr} {L : List Hd} (h : HdC w ao L) (f : Frm S w w') (hS : ∀ a, ao = some a → ¬ S a.block) : HdC w' ao L := fun i hi => by
  obtain ⟨g, o, rfl, h1, h2⟩ := h i hi
  have := hS _ rfl
  exact ⟨g, o, rfl, frm_cell f h1 this, frm_cell f h2 this⟩
theorem Ra.frm {S : Nat → Prop} {w w' : World} {rb : Nat} {bud sp : Int} {L : List Hd} {ao : Option Addr} {cap : Nat} (h : Ra w rb bud sp L ao cap) (f : Frm S w w') (h1 : ¬ S rb) (h2 : ∀ k, S k → ¬ HRow w k) : Ra w' rb bud sp L ao cap :=
  ⟨by rw [f.block rb (blk_lt h.blk) h1]; exact h.blk, h.hd.frm' f (fun a e hs => h2 _ hs (h.row a e)), fun a e => (h.row a e).frm f (fun hs => h2 _ hs (h.row a e))⟩
theorem Ra.old {w w' : World} {rb : Nat} {bud sp : Int} {L : List Hd} {ao : Option Addr} {cap : Nat} (h : Ra w rb bud sp L ao cap) (f : Old w w') : Ra w' rb bud sp L ao cap := h.frm f (fun e => e) (fun _ e => e.elim)
theorem Ra.self {w : World} {rb : Nat} {bud sp : Int} {L : List Hd} {ao : Option Addr} {cap : Nat} (h : Ra w rb bud sp L ao cap) : ¬ HRow w rb := by
  rintro ⟨c, f, e⟩
  rw [h.blk] at e
  simp at e

set_option maxRecDepth 100000 in
theorem rcoins_any (x : Int) (w : World) : Calls Try.prog 36 #[.int .i64 x] w fun e w' => e = .returned (.bool (decide (cB x))) ∧ w' = w := by
  unfold cB
  by_cases h1 : 0 ≤ x
  · by_cases h2 : x ≤ 1099511627776
    · rw [show decide (0 ≤ x ∧ x ≤ 1099511627776) = true by simp [h1, h2]]
      go_enter Try.func36, Try.ntmps36
      go_wp2
      go_ret
      exact ⟨rfl, rfl⟩
    · rw [show decide (0 ≤ x ∧ x ≤ 1099511627776) = false by simp [h2]]
      go_enter Try.func36, Try.ntmps36
      go_wp2
      go_ret
      exact ⟨rfl, rfl⟩
  · rw [show decide (0 ≤ x ∧ x ≤ 1099511627776) = false by simp [h1]]
    go_enter Try.func36, Try.ntmps36
    go_wp2
    go_ret
    exact ⟨rfl, rfl⟩

set_option maxRecDepth 100000 in
set_option maxHeartbeats 4000000 in
theorem rnew_any (x : Int) (w : World) : Calls Try.prog 9 #[.int .i64 x] w fun e w' => (¬ cB x ∧ e = .returned (.tuple #[.pointer none, .int .i64 2]) ∧ w' = w) ∨ (cB x ∧ e = .returned (.tuple #[.pointer (some ⟨w.heap.size, 0, none⟩), .int .i64 0]) ∧ Ra w' w.heap.size x 0 [] none 0 ∧ Old w w') := by
  have kC := hid (rcoins_any x w)
  by_cases h : cB x
  · rw [decide_eq_true h] at kC
    have kF : Hid (Ra (w.alloc (.cells #[.int .i64 x, .int .i64 0, .slice none 0 0] 73)) w.heap.size x 0 [] none 0 ∧ Old w (w.alloc (.cells #[.int .i64 x, .int .i64 0, .slice none 0 0] 73))) := ⟨⟨heap_new w _, fun i hi => by simp at hi, fun a e => by cases e⟩, (Old.refl w).alloc _⟩
    have kh := hid h
    clear h
    go_enter Try.func9, Try.ntmps9
    go_wp2_with fail
    refine kC.out.mono ?_
    rintro e w' ⟨rfl, e2⟩
    rw [e2]
    clear e2
    go_wp2_with fail
    go_ret2
    exact .inr ⟨kh.out, rfl, kF.out.1, kF.out.2⟩
  · rw [decide_eq_false h] at kC
    have kh := hid h
    clear h
    go_enter Try.func9, Try.ntmps9
    go_wp2_with fail
    refine kC.out.mono ?_
    rintro e w' ⟨rfl, e2⟩
    rw [e2]
    clear e2
    go_wp2_with fail
    go_ret2
    exact .inl ⟨kh.out, rfl, rfl⟩

set_option maxRecDepth 100000 in
set_option maxHeartbeats 4000000 in
theorem rcopy_any (rb : Nat) (bud sp : Int) (L : List Hd) (ao : Option Addr) (cap : Nat) (w : World) (h : Ra w rb bud sp L ao cap) : Calls Try.prog 14 #[.pointer (some ⟨rb, 0, none⟩)] w fun e w' => e = .returned (.pointer (some ⟨w.heap.size, 0, none⟩)) ∧ Ra w' w.heap.size bud sp L ao cap ∧ Old w w' := by
  obtain ⟨c0, c1, c2⟩ := h.cells
  have o1 : Old w (w.alloc (.cells #[.int .i64 bud, .int .i64 sp, .slice ao L.length cap] 73)) := (Old.refl w).alloc _
  have kF : Hid (Ra (w.alloc (.cells #[.int .i64 bud, .int .i64 sp, .slice ao L.length cap] 73)) w.heap.size bud sp L ao cap ∧ Old w (w.alloc (.cells #[.int .i64 bud, .int .i64 sp, .slice ao L.length cap] 73))) := ⟨⟨heap_new w _, h.hd.old o1, fun a e => (h.row a e).frm o1 (fun e => e)⟩, o1⟩
  clear h o1
  go_enter Try.func14, Try.ntmps14
  go_wp2_with fail
  go_ret
  exact ⟨rfl, kF.out.1, kF.out.2⟩

set_option maxRecDepth 100000 in
theorem rcopy_nil (w : World) : Calls Try.prog 14 #[.pointer none] w fun e w' => e = .returned (.pointer none) ∧ w' = w := by
  go_enter Try.func14, Try.ntmps14
  go_wp2_with fail
  go_ret
  exact ⟨rfl, rfl⟩

theorem sum_next {L : List Hd} {k : Nat} (h : k < L.length) : sumR (L.take (k + 1)) = sumR (L.take k) + L[k].2 := by
  rw [List.take_succ_eq_append_getElem h, sum_append]
  simp [sumR]

set_option maxRecDepth 100000 in
set_option maxHeartbeats 4000000 in
theorem rall_any (rb : Nat) (bud sp : Int) (L : List Hd) (ao : Option Addr) (cap : Nat) (w : World) (h : Ra w rb bud sp L ao cap) (hb : OkA bud sp L) : Calls Try.prog 50 #[.pointer (some ⟨rb, 0, none⟩)] w fun e w' => e = .returned (.int .i64 (sumR L)) ∧ w' = w := by
  obtain ⟨-, -, c2⟩ := h.cells
  have hlen : L.length ≤ 1099511627776 := hb.bounds.2.2.2.2.2.2
  have kh := hid h
  have kb := hid hb
  clear h hb
  go_enter Try.func50, Try.ntmps50
  go_wp2_with fail
  go_loopw [3, 4] (fun n i wr => ∃ k : Nat, k ≤ L.length ∧ n = .int .i64 (sumR (L.take k)) ∧ i = .int .i64 (k : Int) ∧ wr = w) (fun _ i _ => L.length - (intOf i).toNat)
  case atStart => exact ⟨0, Nat.zero_le _, rfl, rfl, rfl⟩
  case round =>
    obtain ⟨k, hk, rfl, rfl, rfl⟩ := hrel
    by_cases hlt : k < L.length
    · have hlt' : (k : Int) < (L.length : Int) := by omega
      obtain ⟨g, o, rfl, -, d2⟩ := kh.out.hd k hlt
      have ks := hid (sum_next hlt)
      have h1 := sum_nonneg (ok_take kb.out.r k)
      have h2 := sum_take kb.out.r k
      have h3 := kb.out.bounds.2.2.2.2.2.1
      have h4 := (kb.out.r.mem L[k] (List.getElem_mem _)).2
      generalize L[k] = x at *
      obtain ⟨x1, x2⟩ := x
      dsimp only at *
      have hb1 : sumR (L.take k) ≤ 1099511627776 := by omega
      generalize sumR (L.take k) = sm at *
      clear h2 h3
      go_wp2_with fail
      go_roundw
      case rel => exact ⟨k + 1, by omega, by rw [ks.out], by go_num, by first | rfl | trivial⟩
      case measure => simp [intOf]; omega
    · obtain rfl : k = L.length := by omega
      go_wp2_with fail
      go_ret
      rw [List.take_length]
      exact ⟨rfl, rfl⟩

set_option maxRecDepth 100000 in
theorem rall_nil (w : World) : Calls Try.prog 50 #[.pointer none] w fun e w' => e = .returned (.int .i64 0) ∧ w' = w := by
  go_enter Try.func50, Try.ntmps50
  go_wp2_with fail
  refine wp_loop_rounds 1 ?_
  rw [rounds_succ]
  go_wp2_with fail
  go_ret
  exact ⟨rfl, rfl⟩

theorem lk_drop {L : List Hd} {k : Nat} {x : Int} (h : k < L.length) : lkR (L.drop k) x = if L[k].1 = x then some L[k].2 else lkR (L.drop (k + 1)) x := by
  rw [List.drop_eq_getElem_cons h]
  rfl

set_option maxRecDepth 100000 in
set_option maxHeartbeats 4000000 in
theorem rat_any (rb : Nat) (bud sp : Int) (L : List Hd) (ao : Option Addr) (cap : Nat) (x : Int) (w : World) (h : Ra w rb bud sp L ao cap) (hlen : L.length ≤ 1099511627776) : Calls Try.prog 51 #[.pointer (some ⟨rb, 0, none⟩), .int .i64 x] w fun e w' => e = .returned (.int .i64 (atR L x)) ∧ w' = w := by
  obtain ⟨-, -, c2⟩ := h.cells
  have kh := hid h
  obtain ⟨z, hz⟩ : ∃ z, atR L x = z := ⟨_, rfl⟩
  rw [hz]
  have kz : Hid ((lkR L x).getD 0 = z) := hz
  clear h hz
  go_enter Try.func51, Try.ntmps51
  go_wp2_with fail
  go_loopw [5] (fun i wr => ∃ k : Nat, k ≤ L.length ∧ i = .int .i64 (k : Int) ∧ Hid ((lkR (L.drop k) x).getD 0 = z) ∧ wr = w) (fun i _ => L.length - (intOf i).toNat)
  case atStart => exact ⟨0, Nat.zero_le _, rfl, hid (by rw [List.drop_zero]; exact kz.out), rfl⟩
  case round =>
    obtain ⟨k, hk, rfl, hkz, rfl⟩ := hrel
    by_cases hlt : k < L.length
    · have hlt' : (k : Int) < (L.length : Int) := by omega
      obtain ⟨g, o, rfl, d1, d2⟩ := kh.out.hd k hlt
      have ks := hid (lk_drop (x := x) hlt)
      generalize L[k] = y at *
      obtain ⟨y1, y2⟩ := y
      dsimp only at *
      by_cases hy : y1 = x
      · have hy' : (y1 == x) = true := by simpa using hy
        have hzy : Hid (y2 = z) := hid (by have := hkz.out; rw [ks.out, if_pos hy] at this; simpa using this)
        clear hy
        obtain rfl := hzy.out
        go_wp2_with fail
        go_ret
        exact ⟨rfl, rfl⟩
      · have hy' : (y1 == x) = false := by simpa using hy
        have hzy : Hid ((lkR (L.drop (k + 1)) x).getD 0 = z) := hid (by have := hkz.out; rw [ks.out, if_neg hy] at this; exact this)
        clear hy
        go_wp2_with fail
        go_roundw
        case rel => exact ⟨k + 1, by omega, by go_num, hzy, by first | rfl | trivial⟩
        case measure => simp [intOf]; omega
    · obtain rfl : k = L.length := by omega
      have hz0 : Hid (z = 0) := hid (by have := hkz.out; rw [List.drop_length] at this; exact this.symm)
      obtain rfl := hz0.out
      go_wp2_with fail
      go_ret
      exact ⟨rfl, rfl⟩

set_option maxRecDepth 100000 in
theorem rat_nil (x : Int) (w : World) : Calls Try.prog 51 #[.pointer none, .int .i64 x] w fun e w' => e = .returned (.int .i64 0) ∧ w' = w := by
  go_enter Try.func51, Try.ntmps51
  go_wp2_with fail
  refine wp_loop_rounds 1 ?_
  rw [rounds_succ]
  go_wp2_with fail
  go_ret
  exact ⟨rfl, rfl⟩

set_option maxRecDepth 100000 in
set_option maxHeartbeats 4000000 in
theorem rfree_any (rb : Nat) (bud sp : Int) (L : List Hd) (ao : Option Addr) (cap : Nat) (w : World) (h : Ra w rb bud sp L ao cap) (hb : OkA bud sp L) : Calls Try.prog 49 #[.pointer (some ⟨rb, 0, none⟩)] w fun e w' => e = .returned (.int .i64 (bud - sp - sumR L)) ∧ Old w w' := by
  obtain ⟨c0, c1, -⟩ := h.cells
  have kA := hid (fun m => rall_any rb bud sp L ao cap (w.drewN m) (h.old ((Old.refl w).drewN m)) hb)
  have hbd := hb.bounds
  clear h hb
  obtain ⟨h1, h2, h3, h4, h5, h6, -⟩ := hbd
  generalize sumR L = sm at *
  have kw : Hid (w.heap.size = w.heap.size) := rfl
  go_enter Try.func49, Try.ntmps49
  go_wp2_with fail
  go_quiet (exact Calls.quiet_of_same (kA.out _))
  go_wp2_with fail
  go_ret
  exact ⟨rfl, (Old.refl w).drewN _⟩

set_option maxRecDepth 100000 in
theorem rfree_nil (w : World) : Calls Try.prog 49 #[.pointer none] w fun e w' => e = .returned (.int .i64 0) ∧ w' = w := by
  go_enter Try.func49, Try.ntmps49
  go_wp2_with fail
  go_ret
  exact ⟨rfl, rfl⟩
end Go.Proofs.Ythibbenkibjghaa
