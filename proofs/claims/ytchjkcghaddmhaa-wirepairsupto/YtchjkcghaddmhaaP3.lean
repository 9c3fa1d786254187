/- Pairs of numbers are read. -/
import Derived.Test.YtchjkcghaddmhaaP2
namespace Go.Proofs.Ytchjkcghaddmhaa
open Go.RowKit

/-- Two numbers at the head of some bytes: both, the error, how many bytes are read. -/
def rdPair (l : List UInt8) : (Int × Int) × Int × Nat :=
  if (rdNum l).2.1 ≠ 0 then ((0, 0), (rdNum l).2.1, 0)
  else (((rdNum l).1, (rdNum (l.drop (rdNum l).2.2)).1), (rdNum (l.drop (rdNum l).2.2)).2.1, (rdNum l).2.2 + (rdNum (l.drop (rdNum l).2.2)).2.2)

/-- What pair leaves. -/
def RdPair (w : World) (b : Nat) (v : Value) (xs : List UInt8) (p : Nat) (t : (Int × Int) × Int × Nat) (e : Ending) (w' : World) : Prop :=
  e = .returned (.tuple #[.agg #[.int .u64 t.1.1, .int .u64 t.1.2], .int .i64 t.2.1]) ∧ RdOut w b v xs (p + t.2.2) w'

/-- A block of two cells. -/
theorem two_cells {w : World} {k : Nat} {a c : Value} {t : TypeId} (h : w.heap[k]? = some (.cells #[a, c] t (0, 0))) :
    w.cell? ⟨k, 0, none⟩ = some a ∧ w.cell? ⟨k, 1, none⟩ = some c ∧ w.frozen? ⟨k, 0, none⟩ = false ∧ w.frozen? ⟨k, 1, none⟩ = false := by
  refine ⟨?_, ?_, ?_, ?_⟩ <;> simp [World.cell?, World.frozen?, h]

theorem rd_two {w W : World} {b : Nat} {v : Value} {xs : List UInt8} {p : Nat} (hr : Rd W b v xs p) (hf : Frm (fun j => j = b) w W) (hb : b < w.heap.size) (hv : ∀ g, v.ownBlock = some g → g < w.heap.size) (a c : Value) :
    RdOut w b v xs p ((W.setCell ⟨w.heap.size, 0, none⟩ a).setCell ⟨w.heap.size, 1, none⟩ c) := by
  have hf2 : Frm (fun j => j = w.heap.size) W ((W.setCell ⟨w.heap.size, 0, none⟩ a).setCell ⟨w.heap.size, 1, none⟩ c) :=
    ((Frm.refl (fun j => j = w.heap.size) W).setCell ⟨w.heap.size, 0, none⟩ (.inr rfl) a).setCell ⟨w.heap.size, 1, none⟩ (.inr rfl) c
  exact ⟨hr.kept hf2 (by omega) (fun g hg e => by have := hv g hg; omega), hf.trans hf2 (fun i hi e => by omega)⟩

set_option maxRecDepth 100000 in
set_option maxHeartbeats 2000000 in
theorem pair_err (b : Nat) (v : Value) (xs : List UInt8) (p : Nat) (w : World) (hr : Rd w b v xs p) (hlen : xs.length ≤ 900000000000) (h : (rdNum (xs.drop p)).2.1 ≠ 0) :
    Calls Try.prog 32 #[.pointer (some ⟨b, 0, none⟩)] w fun e w' => RdPair w b v xs p ((0, 0), (rdNum (xs.drop p)).2.1, 0) e w' := by
  obtain ⟨f1, f2, f3, f4, f5, f6⟩ := rdNum_facts (xs.drop p)
  have hal : Frm (fun _ => False) w (w.alloc (.cells #[.int .u64 0, .int .u64 0] 67)) := (Frm.refl _ _).alloc _
  have hr1 := hr.kept hal (fun e => e) (fun _ _ e => e)
  have hnew := heap_alloc_new w (.cells #[.int .u64 0, .int .u64 0] 67)
  have hb := hr.lt
  have hvb : ∀ g, v.ownBlock = some g → g < w.heap.size := fun g e => (hr.row.2.lt g e).2
  have hN := hid (rnumber_any b v xs p _ hr1 hlen)
  have hc0 := f6 h
  generalize rdNum (xs.drop p) = T at *
  obtain ⟨x, er, c⟩ := T
  dsimp only at h f1 f2 hc0
  subst hc0
  have ht : (er != 0) = true := by rw [bne_iff_ne]; exact h
  clear f3 f4 f5 f6 h
  go_enter Try.func32, Try.ntmps32
  go_wp2_with fail
  refine hN.out.mono ?_
  rintro e w1 ⟨rfl, hr2, hf2⟩
  have hblk : w1.heap[w.heap.size]? = some (.cells #[.int .u64 0, .int .u64 0] 67 (0, 0)) := by rw [hf2.block _ (by simp) (by omega)]; exact hnew
  obtain ⟨d0, d1, z0, z1⟩ := two_cells hblk
  have hf3 : Frm (fun j => j = b) w w1 := (hal.mono (fun _ _ e => e.elim)).trans hf2 (fun _ _ e => e)
  have hfin := hid (rd_two hr2 hf3 hb hvb (.int .u64 0) (.int .u64 0))
  go_wp2_with fail
  refine (num_any _ _).mono ?_
  rintro e w' ⟨rfl, rfl⟩
  go_wp2_with fail
  exact bodyPost_ret (v := .tuple #[.agg #[.int .u64 0, .int .u64 0], .int .i64 er]) (by simp [results, Try.results32, go_sem, d0, d1]) rfl ⟨rfl, hfin.out⟩

set_option maxRecDepth 100000 in
set_option maxHeartbeats 2000000 in
theorem pair_ok (b : Nat) (v : Value) (xs : List UInt8) (p : Nat) (w : World) (hr : Rd w b v xs p) (hlen : xs.length ≤ 900000000000) (h : (rdNum (xs.drop p)).2.1 = 0) :
    Calls Try.prog 32 #[.pointer (some ⟨b, 0, none⟩)] w fun e w' => RdPair w b v xs p (((rdNum (xs.drop p)).1, (rdNum (xs.drop (p + (rdNum (xs.drop p)).2.2))).1), (rdNum (xs.drop (p + (rdNum (xs.drop p)).2.2))).2.1, (rdNum (xs.drop p)).2.2 + (rdNum (xs.drop (p + (rdNum (xs.drop p)).2.2))).2.2) e w' := by
  have hal : Frm (fun _ => False) w (w.alloc (.cells #[.int .u64 0, .int .u64 0] 67)) := (Frm.refl _ _).alloc _
  have hr1 := hr.kept hal (fun e => e) (fun _ _ e => e)
  have hnew := heap_alloc_new w (.cells #[.int .u64 0, .int .u64 0] 67)
  have hb := hr.lt
  have hvb : ∀ g, v.ownBlock = some g → g < w.heap.size := fun g e => (hr.row.2.lt g e).2
  have hN := hid (rnumber_any b v xs p _ hr1 hlen)
  generalize rdNum (xs.drop p) = T at *
  obtain ⟨x, er, c⟩ := T
  dsimp only at h
  subst h
  dsimp only
  have hN2 := fun W (hR : Rd W b v xs (p + c)) => hid (rnumber_any b v xs (p + c) W hR hlen)
  generalize rdNum (xs.drop (p + c)) = T at *
  obtain ⟨x2, er2, c2⟩ := T
  go_enter Try.func32, Try.ntmps32
  go_wp2_with fail
  refine hN.out.mono ?_
  rintro e w1 ⟨rfl, hr2, hf2⟩
  dsimp only at hr2
  have hblk : w1.heap[w.heap.size]? = some (.cells #[.int .u64 0, .int .u64 0] 67 (0, 0)) := by rw [hf2.block _ (by simp) (by omega)]; exact hnew
  have hf3 : Frm (fun j => j = b) w w1 := (hal.mono (fun _ _ e => e.elim)).trans hf2 (fun _ _ e => e)
  clear hN hr1 hnew hal hf2
  go_wp2_with fail
  refine (num_any _ _).mono ?_
  rintro e w' ⟨rfl, rfl⟩
  go_wp2_with fail
  refine (hN2 _ hr2).out.mono ?_
  rintro e w2 ⟨rfl, hr4, hf4⟩
  clear hN2
  have hlt : w.heap.size < w'.heap.size := (Array.getElem?_eq_some_iff.1 hblk).1
  have hblk2 : w2.heap[w.heap.size]? = some (.cells #[.int .u64 0, .int .u64 0] 67 (0, 0)) := by rw [hf4.block _ hlt (by omega)]; exact hblk
  obtain ⟨d0, d1, z0, z1⟩ := two_cells hblk2
  have hf5 : Frm (fun j => j = b) w w2 := hf3.trans hf4 (fun _ _ e => e)
  have hfin := fun a c => hid (rd_two hr4 hf5 hb hvb a c)
  dsimp only at hr4 hfin
  clear hr2 hf3 hf4 hf5 hblk hblk2
  go_wp2_with fail
  refine bodyPost_ret (v := .tuple #[.agg #[.int .u64 x, .int .u64 x2], .int .i64 er2]) (by simp [results, Try.results32, go_sem, d0, d1]) rfl ⟨rfl, ?_⟩
  rw [← Nat.add_assoc]
  exact (hfin _ _).out

theorem pair_any (b : Nat) (v : Value) (xs : List UInt8) (p : Nat) (w : World) (hr : Rd w b v xs p) (hlen : xs.length ≤ 900000000000) :
    Calls Try.prog 32 #[.pointer (some ⟨b, 0, none⟩)] w fun e w' => RdPair w b v xs p (rdPair (xs.drop p)) e w' := by
  unfold rdPair
  by_cases h : (rdNum (xs.drop p)).2.1 ≠ 0
  · rw [if_pos h]
    exact pair_err b v xs p w hr hlen h
  · rw [if_neg h, List.drop_drop]
    exact pair_ok b v xs p w hr hlen (by omega)

end Go.Proofs.Ytchjkcghaddmhaa
