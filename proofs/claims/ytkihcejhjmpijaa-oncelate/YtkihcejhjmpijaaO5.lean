/- Jobs; a late one's job and its end; done already. -/
import Derived.Test.YtkihcejhjmpijaaO4
import Derived.Laws.EntriesVeiled
namespace Go.Proofs.Ytkihcejhjmpijaa
open Go.RowKit

set_option maxRecDepth 100000 in
set_option maxHeartbeats 4000000 in
theorem first_done (b f g : Nat) (fc gc : Array Value) (ov v e : Int) (w : World) (h : OutM w b 1 0 ov v e) :
    Calls Try.prog 15 #[.pointer (some ⟨b, 0, none⟩), .func (.func f) fc #[], .func (.func g) #[] gc] w fun e' w' => e' = .returned (.tuple #[.int .i64 v, .bool false, .int .i64 e]) ∧ Old w w' := by
  have l := h.lt
  have kh := hid h
  clear h
  go_enter Try.func15, Try.ntmps15
  go_wp2_with fail
  obtain ⟨W0, x0, o0, q0, q1, q2, q3, z0⟩ := four_news w (.cells #[.pointer (some ⟨b, 0, none⟩)] 66) (.cells #[.func (.func f) fc #[]] 29) (.cells #[.func (.func g) #[] gc] 1) (.cells #[.bool false] 4)
  rw [x0]
  clear x0
  have h0 := kh.out.frm o0 (fun h => h)
  refine (do_done b _ _ _ W0 h0.c0).mono ?_
  rintro e' W3 ⟨rfl, rfl⟩
  have p0 := blk_cell q0
  have p3 := blk_cell q3
  have c4 := h0.c4
  have c5 := h0.c5
  have ko := hid o0
  clear q0 q1 q2 q3 h0 o0 z0 kh
  generalize w.heap.size = s at p0 p3 ⊢
  go_wp2_with fail
  go_quiet (fail)
  go_wp2_with fail
  refine bodyPost_ret (v := .tuple #[.int .i64 v, .bool false, .int .i64 e]) ?_ rfl ⟨rfl, ko.out.drewN _⟩
  simp [results, Try.f15, go_sem]

set_option maxRecDepth 100000 in
theorem job_do (bj : Nat) (v : Int) (w : World) (c0 : w.cell? ⟨bj, 0, none⟩ = some (.int .i64 v)) (c1 : w.cell? ⟨bj, 1, none⟩ = some (.int .i64 0)) (z : w.frozen? ⟨bj, 1, none⟩ = false) :
    Calls Try.prog 5 #[.pointer (some ⟨bj, 0, none⟩)] w fun e w' => e = .returned (.int .i64 v) ∧ w' = w.setCell ⟨bj, 1, none⟩ (.int .i64 1) := by
  have c2 : (w.setCell ⟨bj, 1, none⟩ (.int .i64 1)).cell? ⟨bj, 0, none⟩ = some (.int .i64 v) := set_oth c0 (by omega)
  go_enter Try.func5, Try.ntmps5
  go_wp2
  go_ret
  exact ⟨rfl, rfl⟩

/-- What a job says that goes wrong. -/
def oops : Value := .string ⟨#[111, 110, 99, 101, 58, 32, 97, 32, 106, 111, 98, 32, 116, 104, 97, 116, 32, 103, 111, 101, 115, 32, 119, 114, 111, 110, 103]⟩

set_option maxRecDepth 100000 in
theorem wrong_any (w : World) : Calls Try.prog 12 #[] w fun e w' => e = .panicked [{ v := .iface 9 oops, recovered := false }] ∧ w' = w := by
  go_enter Try.func12, Try.ntmps12
  go_wp2
  simp [bodyPost, oops]

set_option maxRecDepth 100000 in
theorem last_good (b bj : Nat) (v : Int) (w : World) (n : bj ≠ b) (h6 : w.cell? ⟨b, 6, none⟩ = some (.func (.func 5) #[.pointer (some ⟨bj, 0, none⟩)] #[])) (z6 : w.frozen? ⟨b, 6, none⟩ = false) (c0 : w.cell? ⟨bj, 0, none⟩ = some (.int .i64 v)) (c1 : w.cell? ⟨bj, 1, none⟩ = some (.int .i64 0)) (z : w.frozen? ⟨bj, 1, none⟩ = false) :
    Calls Try.prog 16 #[.pointer (some ⟨b, 0, none⟩)] w fun e w' => e = .returned (.int .i64 v) ∧ w' = (w.setCell ⟨b, 6, none⟩ .nilFunc).setCell ⟨bj, 1, none⟩ (.int .i64 1) := by
  have f6 := frm_set w b 6 .nilFunc
  have kJ := hid (job_do bj v (w.setCell ⟨b, 6, none⟩ .nilFunc) (frm_cell f6 c0 n) (frm_cell f6 c1 n) (frm_frozen f6 (World.block_lt_of_cell? w _ c1) z n))
  clear f6
  go_enter Try.func16, Try.ntmps16
  go_wp2_with (go_at_call 5; refine kJ.out.mono ?_; rintro e w' ⟨rfl, rfl⟩)
  go_ret
  exact ⟨rfl, rfl⟩

set_option maxRecDepth 100000 in
theorem last_wrong (b : Nat) (w : World) (h6 : w.cell? ⟨b, 6, none⟩ = some (.func (.func 12) #[] #[])) (z6 : w.frozen? ⟨b, 6, none⟩ = false) :
    Calls Try.prog 16 #[.pointer (some ⟨b, 0, none⟩)] w fun e w' => e = .panicked [{ v := .iface 9 oops, recovered := false }] ∧ w' = w.setCell ⟨b, 6, none⟩ .nilFunc := by
  go_enter Try.func16, Try.ntmps16
  go_wp2_with (go_at_call 12; refine (wrong_any _).mono ?_; rintro e w' ⟨rfl, rfl⟩)
  simp [bodyPost]

set_option maxRecDepth 100000 in
theorem over_any (b s : Nat) (x : Value) (w : World) (h : w.cell? ⟨s, 0, none⟩ = some (.pointer (some ⟨b, 0, none⟩))) (h3 : w.cell? ⟨b, 3, none⟩ = some x) (z : w.frozen? ⟨b, 3, none⟩ = false) :
    Calls Try.prog 17 #[.pointer (some ⟨s, 0, none⟩)] w fun e w' => e = .returned (.tuple #[]) ∧ w' = w.drew.setCell ⟨b, 3, none⟩ (.int .u32 1) := by
  go_enter Try.func17, Try.ntmps17
  go_wp2_with (go_at_call 18; refine (store_bool ⟨b, 3, none⟩ x _ h3 z).mono ?_; rintro e w' ⟨rfl, rfl⟩)
  go_end0
  exact ⟨rfl, rfl⟩
end Go.Proofs.Ytkihcejhjmpijaa
