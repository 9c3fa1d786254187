/- Upto walked. -/
import Derived.Test.YtbaibikpdaphoaaD4
namespace Go.Proofs.Ytbaibikpdaphoaa
open Go.RowKit Go.Lib Go.Maps

theorem Cal.at {w : World} {bc bm : Nat} {v : Value} {now : Int} {G : List Due} {P : Int → Option Nat} (h : Cal w bc bm v now G P) (t : Int) : Cal (w.setCell ⟨bc, 0, none⟩ (.int .i64 t)) bc bm v t G P := by
  have hf := frm_set w bc 0 (.int .i64 t)
  refine ⟨?_, h.sl.kept hf (fun k hk e => ?_), h.map.kept hf (fun e => ne_of_cell h.map h.cells.1 e.symm), h.pl, h.heap, h.nd, h.ok⟩
  · have := h.blk
    simp [World.setCell, Array.getElem?_modify, this]
  · rcases h.sl with ⟨rfl, _⟩ | ⟨hb, cap, rfl, _, hne, _⟩
    · simp [Value.ownBlock] at hk
    · simp [Value.ownBlock] at hk
      exact hne (hk.trans e)

set_option maxRecDepth 100000 in
set_option maxHeartbeats 4000000 in
theorem upto_bad (bt : Nat) (F : Nat → Prop) (now t z : Int) (R : List Due) (w : World) (h : TkS w bt F now R) (hz : refE now (t, 0) = z) (hz0 : z ≠ 0) :
    Calls Try.prog 20 #[.pointer (some ⟨bt, 0, none⟩), .int .i64 t] w fun e w' => e = .returned (.tuple #[.slice none 0 0, .int .i64 z]) ∧ Old w w' := by
  obtain ⟨bc, bm, v, G, P, h⟩ := h
  have hk := hid (kept_any bt _ w h.cell)
  have c0 := h.cal.cells.1
  have hb : (z == 0) = false := by rw [beq_eq_false_iff_ne]; exact hz0
  have kr := hid (refusal_any w.heap.size now (t, 0) (w.alloc (.cells #[.int .i64 t, .int .i64 0] 26)) (new_cell _ _ _ _ _ rfl) (new_cell _ _ _ _ _ rfl))
  rw [hz] at kr
  clear h hz
  go_enter Try.func20, Try.ntmps20
  go_wp2_with fail
  refine hk.out.mono ?_
  rintro e w2 ⟨rfl, e2⟩
  rw [e2]
  clear e2 w2
  go_wp2_with fail
  refine kr.out.mono ?_
  rintro e w2 ⟨rfl, h2⟩
  have h2' := hid (((Old.refl w).alloc _).trans h2)
  clear h2
  go_wp2
  go_ret2
  exact ⟨rfl, h2'.out⟩

/-- How many there are, as the calendar has it. -/
def mlen (bc : Nat) (w : World) : Nat := match w.cell? ⟨bc, 1, none⟩ with
  | some (.slice _ n _) => n
  | _ => 0

theorem mlen_eq {bc : Nat} {w : World} {ao : Option Addr} {n cap : Nat} (h : w.cell? ⟨bc, 1, none⟩ = some (.slice ao n cap)) : mlen bc w = n := by
  unfold mlen; rw [h]

set_option maxRecDepth 100000 in
set_option maxHeartbeats 8000000 in
theorem upto_good (bt : Nat) (F : Nat → Prop) (now t : Int) (R : List Due) (w : World) (h : TkS w bt F now R) (hz : refE now (t, 0) = 0) (hl : R.length ≤ 1000000) :
    Calls Try.prog 20 #[.pointer (some ⟨bt, 0, none⟩), .int .i64 t] w fun e w' => UpP w bt F t R e w' := by
  obtain ⟨bc, bm, v, G, P, h⟩ := h
  have hk := hid (kept_any bt _ w h.cell)
  have c0 := h.cal.cells.1
  have kr := hid (refusal_any w.heap.size now (t, 0) (w.alloc (.cells #[.int .i64 t, .int .i64 0] 26)) (new_cell _ _ _ _ _ rfl) (new_cell _ _ _ _ _ rfl))
  rw [hz] at kr
  have kh := hid h
  obtain ⟨i0, hi0, hz0, hz1, hz2⟩ := info_parts info26
  clear h hz
  go_enter Try.func20, Try.ntmps20
  go_wp2_with fail
  refine hk.out.mono ?_
  rintro e w2 ⟨rfl, e2⟩
  rw [e2]
  clear e2 w2
  go_wp2_with fail
  refine kr.out.mono ?_
  rintro e w2 ⟨rfl, h2⟩
  have h2' := hid (((Old.refl w).alloc _).trans h2)
  have hC2 := kh.out.cal.old h2'.out
  have f0 := hC2.cells.1
  have f1 := hC2.cells.2.2.2 0
  have kC := hid hC2
  clear h2 hC2 kr
  go_wp2_with fail
  have hU : Hid (Up w (w2.setCell ⟨bc, 0, none⟩ (.int .i64 t)) bc bm v t R (.slice none 0 0) [] R v G P) := ⟨by simpa [flatD] using World.ownsRow_nil _ _ _ _, kC.out.at t, rfl, kh.out.perm, rfl, fun x hx => by simp at hx, Frm.trans (Frm.mono h2'.out (fun _ _ h => h.elim)) (frm_set w2 bc 0 _) (fun _ _ h => Or.inl h)⟩
  go_loopw [8] (fun s ws => ∃ D R' vv G P, Up w ws bc bm v t R s D R' vv G P) (fun _ ws => mlen bc ws)
  case atStart => exact ⟨_, _, _, _, _, hU.out⟩
  case round =>
    clear hU h2' kC f0 f1 c0 hk
    obtain ⟨D, R', vv, G1, P1, hU⟩ := hrel
    have kU := hid hU
    have hlt1 := kh.out.cal.lt
    have hlt2 := kh.out.cal.map.lt
    have hlen := hU.perm.length_eq
    have hDl : D.length + R'.length = R.length := by rw [← hU.split]; simp
    have hsrt : Srt R' := by
      have h1 := kh.out.srt
      rw [← hU.split] at h1
      exact h1.sublist (List.sublist_append_right _ _)
    have c1 := hU.cal.cells.2.1
    cases R' with
    | nil =>
      obtain rfl : G1 = [] := List.eq_nil_of_length_eq_zero (by rw [hlen]; rfl)
      obtain ⟨ao, cap, rfl⟩ : ∃ ao cap, vv = .slice ao 0 cap := by
        rcases hU.cal.sl with ⟨rfl, _⟩ | ⟨hb, cap, rfl, _⟩
        · exact ⟨_, _, rfl⟩
        · exact ⟨_, _, rfl⟩
      clear hU hsrt
      go_wp2_with fail
      go_ret2
      exact up_done kh.out kU.out (Or.inl rfl)
    | cons x R'' =>
      have hat := top_head hU.cal.heap hU.perm hsrt
      obtain ⟨hb, cap, rfl, hRow, _⟩ : ∃ hb cap, vv = .slice (some ⟨hb, 0, none⟩) G1.length cap ∧ Row wr hb cap G1 ∧ True := by
        rcases hU.cal.sl with ⟨_, rfl⟩ | ⟨hb, cap, rfl, h2, _⟩
        · simp at hlen
        · exact ⟨_, _, rfl, h2, trivial⟩
      obtain ⟨r1, r2⟩ := hRow.cell (i := 0) (by rw [hlen]; simp)
      rw [hat] at r1 r2
      simp only [Nat.mul_zero, Nat.zero_add] at r1 r2
      obtain ⟨e, he⟩ : ∃ e, R''.length = e := ⟨_, rfl⟩
      have hG1 : G1.length = e + 1 := by rw [hlen, List.length_cons, he]
      have hlb : hb < w.heap.size := kh.out.cal.sl.lt hb (by rw [← hU.blk]; rfl)
      rw [List.length_cons, he] at hDl
      rw [hG1] at c1 kU hU
      have hml : Hid (mlen bc wr = e + 1) := mlen_eq c1
      have hown := hU.own
      have hszw := hU.frm.size
      have kt := hid (take_any bc hb bm cap e t G1 P1 0 wr hU.cal hG1 (by omega) (by omega))
      rw [hat] at kt
      have hat' := hid hat
      obtain ⟨x0, x1⟩ := x
      clear hU hRow hat hsrt
      by_cases hx : x0 ≤ t
      · go_wp2_with fail
        refine kt.out.mono ?_
        rintro en w5 ⟨rfl, G', P', v1, v2, v3⟩
        have hown5 := owns_frm hown v3 (fun k hk => by have := (owns_ge hown k hk).1; show ¬ (k = bc ∨ k = bm ∨ k = hb); omega)
        have hsz5 := v3.size
        have l1 := hid v1
        have l2 := hid v2
        have l3 := hid v3
        clear v1 v2 v3
        go_wp2_with (first
          | (at_builtin; refine wpList_append_lies _ (by rfl) _ _ 22 (by rfl) w.heap.size 26 i0 _ 2 16 Try.underlying22 hi0 hz0 hz1 hz2 rfl (by omega) _ D.length (flatD D) (by rfl) (World.ownsRow.alloc hown5 _) ⟨_, 0, none⟩ 1 1 [.int .i64 x0, .int .i64 x1] (by rfl) (by rfl) (World.news_of_block (heap_new _ _)) (by simp [Value.oneCell']) (by omega) (by unfold maxLen; omega) (by omega) (Nat.le_trans hszw (Nat.le_trans hsz5 (by simp))) _ rfl ?_; intro g1 cap1 w6 hown6 hgrow6 hat6 hlt6)
          | fail)
        have hU6 := hid (up_step (x := (x0, x1)) kU.out hx l1.out l2.out l3.out hown6 hgrow6 ⟨hlt1, hlt2, hlb⟩)
        clear hown6 hgrow6 hat6 hlt6 hown5 hown
        go_roundw
        case rel => exact ⟨_, _, _, _, _, hU6.out⟩
        case measure => rw [mlen_eq hU6.out.cal.cells.2.1, hml.out]; omega
      · have hd : decide (x0 ≤ t) = false := by simp; omega
        go_wp2_with fail
        go_ret2
        exact up_done kh.out kU.out (Or.inr ⟨_, _, rfl, by simp; omega⟩)
end Go.Proofs.Ytbaibikpdaphoaa
