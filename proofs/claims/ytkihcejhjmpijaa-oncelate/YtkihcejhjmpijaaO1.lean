/- The locks and the numbers of sync and sync/atomic, in the run of one. -/
import Derived.Test.YtkihcejhjmpijaaBase
import Derived.Test.YtkihcejhjmpijaaProg
import Derived.Defers
import Derived.Recover
import Derived.Laws.Pointers
import Derived.Laws.LoneSync
import Derived.RegionCalls
import Derived.BigQuiet
namespace Go.Proofs.Ytkihcejhjmpijaa
open Go.RowKit

theorem frm_cell {S : Nat → Prop} {w w' : World} (h : Frm S w w') {p : Addr} {v : Value} (hc : w.cell? p = some v) (hS : ¬ S p.block) : w'.cell? p = some v := by
  have hg := World.block_lt_of_cell? w _ hc
  rw [← hc]
  exact World.cell?_of_block (h.block _ hg hS)
theorem frm_set (w : World) (b o : Nat) (u : Value) : Frm (fun k => k = b) w (w.setCell ⟨b, o, none⟩ u) := Frm.setCell (Frm.refl (fun k => k = b) w) ⟨b, o, none⟩ (Or.inr rfl) u
theorem heap_new (w : World) (o : Obj) : (w.alloc o).heap[w.heap.size]? = some o := by simp only [World.alloc]; exact Array.getElem?_push_size ..

/-- What comes of a job: its once (done, the lock's word), whether it is over, its value and its error. -/
structure OutM (w : World) (b : Nat) (d m ov v e : Int) : Prop where
  c0 : w.cell? ⟨b, 0, none⟩ = some (.int .u32 d)
  c1 : w.cell? ⟨b, 1, none⟩ = some (.int .i32 m)
  c3 : w.cell? ⟨b, 3, none⟩ = some (.int .u32 ov)
  c4 : w.cell? ⟨b, 4, none⟩ = some (.int .i64 v)
  c5 : w.cell? ⟨b, 5, none⟩ = some (.int .i64 e)
  fz : ∀ i, w.frozen? ⟨b, i, none⟩ = false

theorem frm_frozen {S : Nat → Prop} {w w' : World} (h : Frm S w w') {p : Addr} (hl : p.block < w.heap.size) (hc : w.frozen? p = false) (hS : ¬ S p.block) : w'.frozen? p = false := by
  rw [← hc]
  simp only [World.frozen?, h.block _ hl hS]

theorem OutM.lt {w : World} {b : Nat} {d m ov v e : Int} (h : OutM w b d m ov v e) : b < w.heap.size := World.block_lt_of_cell? w _ h.c0

theorem OutM.frm {S : Nat → Prop} {w w' : World} {b : Nat} {d m ov v e : Int} (h : OutM w b d m ov v e) (hf : Frm S w w') (hS : ¬ S b) : OutM w' b d m ov v e :=
  ⟨frm_cell hf h.c0 hS, frm_cell hf h.c1 hS, frm_cell hf h.c3 hS, frm_cell hf h.c4 hS, frm_cell hf h.c5 hS, fun i => frm_frozen hf h.lt (h.fz i) hS⟩

theorem set_oth {w : World} {b i j : Nat} {u x : Value} (h : w.cell? ⟨b, j, none⟩ = some x) (hn : i ≠ j) : (w.setCell ⟨b, i, none⟩ u).cell? ⟨b, j, none⟩ = some x :=
  (World.cell?_setCell_other w ⟨b, i, none⟩ ⟨b, j, none⟩ u (fun h => hn (congrArg Addr.off h))).trans h
theorem set_same {w : World} {b i : Nat} {u x : Value} (h : w.cell? ⟨b, i, none⟩ = some x) : (w.setCell ⟨b, i, none⟩ u).cell? ⟨b, i, none⟩ = some u := World.cell?_setCell_same w ⟨b, i, none⟩ u h
theorem set_fz {w : World} {b i : Nat} {u : Value} (h : ∀ j, w.frozen? ⟨b, j, none⟩ = false) (j : Nat) : (w.setCell ⟨b, i, none⟩ u).frozen? ⟨b, j, none⟩ = false := by simp [h j]

theorem OutM.s0 {w : World} {b : Nat} {d m ov v e : Int} (h : OutM w b d m ov v e) (x : Int) : OutM (w.setCell ⟨b, 0, none⟩ (.int .u32 x)) b x m ov v e :=
  ⟨set_same h.c0, set_oth h.c1 (by omega), set_oth h.c3 (by omega), set_oth h.c4 (by omega), set_oth h.c5 (by omega), set_fz h.fz⟩
theorem OutM.s1 {w : World} {b : Nat} {d m ov v e : Int} (h : OutM w b d m ov v e) (x : Int) : OutM (w.setCell ⟨b, 1, none⟩ (.int .i32 x)) b d x ov v e :=
  ⟨set_oth h.c0 (by omega), set_same h.c1, set_oth h.c3 (by omega), set_oth h.c4 (by omega), set_oth h.c5 (by omega), set_fz h.fz⟩
theorem OutM.s3 {w : World} {b : Nat} {d m ov v e : Int} (h : OutM w b d m ov v e) (x : Int) : OutM (w.setCell ⟨b, 3, none⟩ (.int .u32 x)) b d m x v e :=
  ⟨set_oth h.c0 (by omega), set_oth h.c1 (by omega), set_same h.c3, set_oth h.c4 (by omega), set_oth h.c5 (by omega), set_fz h.fz⟩
theorem OutM.s4 {w : World} {b : Nat} {d m ov v e : Int} (h : OutM w b d m ov v e) (x : Int) : OutM (w.setCell ⟨b, 4, none⟩ (.int .i64 x)) b d m ov x e :=
  ⟨set_oth h.c0 (by omega), set_oth h.c1 (by omega), set_oth h.c3 (by omega), set_same h.c4, set_oth h.c5 (by omega), set_fz h.fz⟩
theorem OutM.s5 {w : World} {b : Nat} {d m ov v e : Int} (h : OutM w b d m ov v e) (x : Int) : OutM (w.setCell ⟨b, 5, none⟩ (.int .i64 x)) b d m ov v x :=
  ⟨set_oth h.c0 (by omega), set_oth h.c1 (by omega), set_oth h.c3 (by omega), set_oth h.c4 (by omega), set_same h.c5, set_fz h.fz⟩
theorem OutM.drew {w : World} {b : Nat} {d m ov v e : Int} (h : OutM w b d m ov v e) : OutM w.drew b d m ov v e := h.frm ((Frm.refl (fun _ => False) w).drew) (fun h => h)
theorem OutM.s6 {w : World} {b : Nat} {d m ov v e : Int} (h : OutM w b d m ov v e) (u : Value) : OutM (w.setCell ⟨b, 6, none⟩ u) b d m ov v e :=
  ⟨set_oth h.c0 (by omega), set_oth h.c1 (by omega), set_oth h.c3 (by omega), set_oth h.c4 (by omega), set_oth h.c5 (by omega), set_fz h.fz⟩

theorem disable (w : World) : (callFunc 60 #[]).run Try.prog w = .ok (.value (.tuple #[])) w := run_call_mark0 Try.func60 (by kernel_rfl) (by kernel_rfl) (by kernel_rfl) .disable (by kernel_rfl) w
theorem enable (w : World) : (callFunc 62 #[]).run Try.prog w = .ok (.value (.tuple #[])) w := run_call_mark0 Try.func62 (by kernel_rfl) (by kernel_rfl) (by kernel_rfl) .enable (by kernel_rfl) w
theorem acquire (a : Addr) (w : World) : (callFunc 63 #[.pointer (some a)]).run Try.prog w = .ok (.value (.tuple #[])) w := run_call_marked Try.func63 (by kernel_rfl) (by kernel_rfl) (by kernel_rfl) .acquire (by kernel_rfl) a w
theorem releaseMerge (a : Addr) (w : World) : (callFunc 65 #[.pointer (some a)]).run Try.prog w = .ok (.value (.tuple #[])) w := run_call_marked Try.func65 (by kernel_rfl) (by kernel_rfl) (by kernel_rfl) .releaseMerge (by kernel_rfl) a w

theorem store_bool (a : Addr) (x : Value) (w : World) (hc : w.cell? a = some x) (hz : w.frozen? a = false) :
    Calls Try.prog 18 #[.pointer (some a), .bool true] w fun e w' => e = .returned (.tuple #[]) ∧ w' = w.drew.setCell a (.int .u32 1) := by
  have hc' : w.drew.cell? a = some x := by go_simp
  have hz' : w.drew.frozen? a = false := by go_simp
  have hst := run_call_store (P := Try.prog) Try.func27 (by kernel_rfl) (by kernel_rfl) (by kernel_rfl) (by kernel_rfl) (k := .u32) (y := 1) hc' hz'
  go_enter Try.func18, Try.ntmps18
  go_wp2
  go_region_calls
  all_goals (go_end0; exact ⟨rfl, rfl⟩)

/-- .. entered as a deferred call. -/
theorem store_deferred (a : Addr) (x : Value) (u : FrameMode) (w : World) (hc : w.cell? a = some x) (hz : w.frozen? a = false) :
    CallsD Try.prog 18 #[.pointer (some a), .bool true] u w fun e u' w' => u' = u ∧ (e = .returned (.tuple #[]) ∧ w' = w.drew.setCell a (.int .u32 1)) := by
  have hc' : w.drew.cell? a = some x := by go_simp
  have hz' : w.drew.frozen? a = false := by go_simp
  have hst := run_call_store (P := Try.prog) Try.func27 (by kernel_rfl) (by kernel_rfl) (by kernel_rfl) (by kernel_rfl) (k := .u32) (y := 1) hc' hz'
  go_enter_d Try.func18, Try.ntmps18
  go_wp2
  go_region_calls
  all_goals (go_end0; exact ⟨rfl, rfl⟩)

/-- A Bool that is loaded. -/
theorem load_bool (a : Addr) (d : Int) (y : Bool) (hd : (d != 0) = y) (w : World) (hc : w.cell? a = some (.int .u32 d)) :
    Calls Try.prog 14 #[.pointer (some a)] w fun e w' => e = .returned (.bool y) ∧ w' = w := by
  have hl := run_call_load (P := Try.prog) Try.func23 (by kernel_rfl) (by kernel_rfl) (by kernel_rfl) .u32 (by kernel_rfl) hc
  go_enter Try.func14, Try.ntmps14
  go_wp2
  go_ret
  exact ⟨rfl, rfl⟩

set_option maxRecDepth 100000 in
set_option maxHeartbeats 1600000 in
theorem unlock_deferred (a : Addr) (u : FrameMode) (w : World) (hc : w.cell? a = some (.int .i32 1)) (hz : w.frozen? a = false) :
    CallsD Try.prog 39 #[.pointer (some a)] u w fun e u' w' => u' = u ∧ (e = .returned (.tuple #[]) ∧ w' = w.setCell a (.int .i32 0)) := by
  have hd := disable
  have he := enable
  have hr := releaseMerge
  have hadd := run_call_add (P := Try.prog) Try.func66 (by kernel_rfl) (by kernel_rfl) (by kernel_rfl) .i32 (by kernel_rfl) (y := -1) (s := 0) hc hz (by simp [go_sem]; rfl)
  have hcv := run_convert_to_unsafe (P := Try.prog) (src := 107) (dst := 111) Try.underlying107 Try.underlying111 (by kernel_rfl) hc
  go_enter_d Try.func39, Try.ntmps39
  go_wp2
  go_end0
  go_wp2
  go_end0
  exact ⟨rfl, rfl⟩

set_option maxRecDepth 100000 in
set_option maxHeartbeats 1600000 in
theorem lock_free (a : Addr) (w : World) (hc : w.cell? a = some (.int .i32 0)) (hz : w.frozen? a = false) :
    Calls Try.prog 38 #[.pointer (some a)] w fun e w' => e = .returned (.tuple #[]) ∧ w' = w.setCell a (.int .i32 1) := by
  have hd := disable
  have he := enable
  have ha := acquire
  have hcas := run_call_cas_hit (P := Try.prog) Try.func61 (by kernel_rfl) (by kernel_rfl) (by kernel_rfl) .i32 (by kernel_rfl) (y := 1) hc hz
  have hc' : (w.setCell a (.int .i32 1)).cell? a = some (.int .i32 1) := World.cell?_setCell_same w a _ hc
  have hcv := run_convert_to_unsafe (P := Try.prog) (src := 107) (dst := 111) Try.underlying107 Try.underlying111 (by kernel_rfl) hc'
  go_enter Try.func38, Try.ntmps38
  go_wp2
  first | go_end0 | (simp only [Exit.inBlock, Exit.then]; refine bodyPost_ret (results_none rfl _ _ _) rfl ?_) | refine bodyPost_ret (results_none rfl _ _ _) rfl ?_
  go_wp2
  go_end0
  exact ⟨rfl, rfl⟩
end Go.Proofs.Ytkihcejhjmpijaa
