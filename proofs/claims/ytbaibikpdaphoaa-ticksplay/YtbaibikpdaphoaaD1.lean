/- A calendar as its callers have it: the small calls. -/
import Derived.Test.YtbaibikpdaphoaaC2
import Derived.Test.YtbaibikpdaphoaaJ1
namespace Go.Proofs.Ytbaibikpdaphoaa
open Go.RowKit Go.Lib Go.Maps

/-- Calendar bt: its now, its numbers in order; the blocks that are its own. -/
structure Tk (w : World) (bt : Nat) (F : Nat → Prop) (now : Int) (R : List Due) (bc bm : Nat) (v : Value) (G : List Due) (P : Int → Option Nat) : Prop where
  top : w.heap[bt]? = some (.cells #[.pointer (some ⟨bc, 0, none⟩)] 67 (0, 0))
  cal : Cal w bc bm v now G P
  perm : G.Perm R
  srt : Srt R
  ft : F bt
  fc : F bc
  fm : F bm
  fv : ∀ k, v.ownBlock = some k → F k
  nt : bt ≠ bc ∧ bt ≠ bm ∧ v.ownBlock ≠ some bt

def TkS (w : World) (bt : Nat) (F : Nat → Prop) (now : Int) (R : List Due) : Prop := ∃ bc bm v G P, Tk w bt F now R bc bm v G P

theorem Tk.kept {w w' : World} {bt : Nat} {F S : Nat → Prop} {now : Int} {R : List Due} {bc bm : Nat} {v : Value} {G : List Due} {P : Int → Option Nat} (h : Tk w bt F now R bc bm v G P) (hf : Frm S w w') (hS : ∀ k, F k → ¬ S k) : Tk w' bt F now R bc bm v G P :=
  ⟨by rw [hf.block bt (Array.getElem?_eq_some_iff.1 h.top).1 (hS _ h.ft)]; exact h.top, h.cal.kept hf (hS _ h.fc) (hS _ h.fm) (fun k hk => hS _ (h.fv k hk)), h.perm, h.srt, h.ft, h.fc, h.fm, h.fv, h.nt⟩

theorem TkS.kept {w w' : World} {bt : Nat} {F S : Nat → Prop} {now : Int} {R : List Due} (h : TkS w bt F now R) (hf : Frm S w w') (hS : ∀ k, F k → ¬ S k) : TkS w' bt F now R := by
  obtain ⟨bc, bm, v, G, P, h⟩ := h
  exact ⟨bc, bm, v, G, P, h.kept hf hS⟩

theorem TkS.old {w w' : World} {bt : Nat} {F : Nat → Prop} {now : Int} {R : List Due} (h : TkS w bt F now R) (hf : Old w w') : TkS w' bt F now R := h.kept hf (fun _ _ h => h)

theorem Tk.cell {w : World} {bt : Nat} {F : Nat → Prop} {now : Int} {R : List Due} {bc bm : Nat} {v : Value} {G : List Due} {P : Int → Option Nat} (h : Tk w bt F now R bc bm v G P) : w.cell? ⟨bt, 0, none⟩ = some (.pointer (some ⟨bc, 0, none⟩)) := by
  simp [World.cell?, h.top]

theorem Tk.len {w : World} {bt : Nat} {F : Nat → Prop} {now : Int} {R : List Due} {bc bm : Nat} {v : Value} {G : List Due} {P : Int → Option Nat} (h : Tk w bt F now R bc bm v G P) : ∃ ao cap, v = .slice ao R.length cap := by
  rw [← h.perm.length_eq]
  rcases h.cal.sl with ⟨rfl, rfl⟩ | ⟨hb, cap, rfl, _⟩
  · exact ⟨none, 0, rfl⟩
  · exact ⟨_, _, rfl⟩

set_option maxRecDepth 100000 in
set_option maxHeartbeats 1000000 in
theorem kept_any (bt : Nat) (x : Value) (w : World) (h : w.cell? ⟨bt, 0, none⟩ = some x) : Calls Try.prog 31 #[.pointer (some ⟨bt, 0, none⟩)] w fun e w' => e = .returned x ∧ w' = w := by
  go_enter Try.func31, Try.ntmps31
  go_wp2
  go_ret
  exact ⟨rfl, rfl⟩

set_option maxRecDepth 100000 in
set_option maxHeartbeats 1000000 in
theorem kept_nil (w : World) : Calls Try.prog 31 #[.pointer none] w fun e w' => e = .returned (.pointer none) ∧ w' = w := by
  go_enter Try.func31, Try.ntmps31
  go_wp2
  go_ret
  exact ⟨rfl, rfl⟩

set_option maxRecDepth 100000 in
set_option maxHeartbeats 1000000 in
theorem len_any (bt : Nat) (F : Nat → Prop) (now : Int) (R : List Due) (w : World) (h : TkS w bt F now R) : Calls Try.prog 21 #[.pointer (some ⟨bt, 0, none⟩)] w fun e w' => e = .returned (.int .i64 (R.length : Int)) ∧ w' = w := by
  obtain ⟨bc, bm, v, G, P, h⟩ := h
  obtain ⟨ao, cap, rfl⟩ := h.len
  have hk := hid (kept_any bt _ w h.cell)
  have c1 := h.cal.cells.2.1
  clear h
  generalize R.length = n at *
  go_enter Try.func21, Try.ntmps21
  go_wp2_with fail
  refine hk.out.mono ?_
  rintro e w2 ⟨rfl, e2⟩
  rw [e2]
  clear e2 w2
  go_wp2
  go_ret
  exact ⟨rfl, rfl⟩

set_option maxRecDepth 100000 in
set_option maxHeartbeats 1000000 in
theorem now_any (bt : Nat) (F : Nat → Prop) (now : Int) (R : List Due) (w : World) (h : TkS w bt F now R) : Calls Try.prog 24 #[.pointer (some ⟨bt, 0, none⟩)] w fun e w' => e = .returned (.int .i64 now) ∧ w' = w := by
  obtain ⟨bc, bm, v, G, P, h⟩ := h
  have hk := hid (kept_any bt _ w h.cell)
  have c1 := h.cal.cells.1
  clear h
  go_enter Try.func24, Try.ntmps24
  go_wp2_with fail
  refine hk.out.mono ?_
  rintro e w2 ⟨rfl, e2⟩
  rw [e2]
  clear e2 w2
  go_wp2
  go_ret
  exact ⟨rfl, rfl⟩

set_option maxRecDepth 100000 in
set_option maxHeartbeats 4000000 in
theorem next_none (bt : Nat) (F : Nat → Prop) (now : Int) (w : World) (h : TkS w bt F now []) : Calls Try.prog 22 #[.pointer (some ⟨bt, 0, none⟩)] w fun e w' => e = .returned (.tuple #[.agg #[.int .i64 0, .int .i64 0], .bool false]) ∧ Old w w' := by
  have hk := hid (fun W (hW : Old w W) => len_any bt F now [] W (h.old hW))
  clear h
  go_enter Try.func22, Try.ntmps22
  go_wp2_with fail
  refine (hk.out _ ((Old.refl w).alloc _)).mono ?_
  rintro e w2 ⟨rfl, e2⟩
  rw [e2]
  clear e2 w2
  go_wp2_with fail
  refine bodyPost_ret (v := .tuple #[.agg #[.int .i64 0, .int .i64 0], .bool false]) (by simp [results, Try.results22, go_sem]) rfl ⟨rfl, ?_⟩
  exact (Old.refl w).alloc _

set_option maxRecDepth 100000 in
set_option maxHeartbeats 4000000 in
theorem next_some (bt : Nat) (F : Nat → Prop) (now : Int) (x : Due) (R : List Due) (w : World) (h : TkS w bt F now (x :: R)) : Calls Try.prog 22 #[.pointer (some ⟨bt, 0, none⟩)] w fun e w' => e = .returned (.tuple #[.agg #[.int .i64 x.1, .int .i64 x.2], .bool true]) ∧ Old w w' := by
  have hk := hid (fun W (hW : Old w W) => len_any bt F now (x :: R) W (h.old hW))
  obtain ⟨bc, bm, v, G, P, h⟩ := h
  have hlen := h.perm.length_eq
  have hat := top_head h.cal.heap h.perm h.srt
  have l1 := (Array.getElem?_eq_some_iff.1 h.top).1
  have l2 := h.cal.lt
  have c0 := h.cell
  have c1 := h.cal.cells.2.1
  rcases h.cal.sl with ⟨_, rfl⟩ | ⟨hb, cap, rfl, hR, _⟩
  · simp at hlen
  · obtain ⟨r1, r2⟩ := hR.cell (i := 0) (by rw [hlen]; simp)
    rw [hat] at r1 r2
    have l3 := hR.lt
    obtain ⟨n, hn⟩ : ∃ n, R.length = n := ⟨_, rfl⟩
    rw [hlen, List.length_cons, hn] at c1
    rw [List.length_cons, hn] at hk
    obtain ⟨x0, x1⟩ := x
    simp only [Nat.mul_zero, Nat.zero_add] at r1 r2
    clear h hat hlen hR hn
    go_enter Try.func22, Try.ntmps22
    go_wp2_with fail
    refine (hk.out _ ((Old.refl w).alloc _)).mono ?_
    rintro e w2 ⟨rfl, e2⟩
    rw [e2]
    clear e2 w2
    go_wp2_with fail
    refine bodyPost_ret (v := .tuple #[.agg #[.int .i64 x0, .int .i64 x1], .bool true]) (by simp [results, Try.results22, go_sem]) rfl ⟨rfl, ?_⟩
    exact (Old.refl w).alloc _
end Go.Proofs.Ytbaibikpdaphoaa
