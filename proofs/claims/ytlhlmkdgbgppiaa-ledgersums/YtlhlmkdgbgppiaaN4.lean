/- A table: a name comes; found. -/
import Derived.Test.YtlhlmkdgbgppiaaN3
namespace Go.Proofs.Ytlhlmkdgbgppiaa
open Go.RowKit Go.Shelf Go.Maps

theorem info9 : (Try.prog.info? 9).map (fun i => (i.zero, i.size, i.bytes)) = some (some (.string .empty), 1, 16) := by kernel_rfl

set_option maxRecDepth 100000 in
set_option maxHeartbeats 4000000 in
theorem tadd_any (tb mb : Nat) (v : Value) (most : Int) (L : List (List UInt8)) (x : List UInt8) (w : World) (h : Tbl w tb mb v most L) (hL : L.length ≤ 1048576) (hx : x.length ≤ 64) (hm : x ∉ L) :
    Calls Try.prog 69 #[.pointer (some ⟨tb, 0, none⟩), .string ⟨x.toArray⟩] w fun e w' => e = .returned (.int .i64 (L.length : Int)) ∧ ∃ v', Tbl w' tb mb v' most (L ++ [x]) ∧ Frm (fun k => k = tb ∨ k = mb ∨ v.ownBlock = some k) w w' ∧ (∀ k, v'.ownBlock = some k → v.ownBlock = some k ∨ w.heap.size ≤ k) ∧ w.heap.size ≤ w'.heap.size := by
  obtain ⟨i0, hi, hz0, hz1, hz2⟩ := info_parts info9
  have c1 := h.cell1
  obtain ⟨ao, cap, hv⟩ := h.form
  have kC := hid (clone_any x w (by omega))
  have kh := hid h
  rw [hv] at c1
  clear h
  go_enter Try.func69, Try.ntmps69
  go_wp2_with (go_at_call 80; refine kC.out.mono ?_)
  rintro e w1 ⟨rfl, o1⟩
  have h1 := kh.out.old o1
  have d1 := h1.cell1
  rw [hv] at d1
  have hrow := h1.row.alloc (.cells #[.string ⟨x.toArray⟩] 9)
  have lt := blk_lt h1.blk
  have lm := h1.km.lt
  have n3 := h1.ne3
  have n2 := h1.ne2
  have n1 := h1.ne1
  rw [hv] at hrow n3 n2
  have kb := hid h1.blk
  have kk := hid h1.km
  have k1 := hid o1
  clear h1 kC o1 c1
  go_wp2_with (at_builtin; refine wpList_append_lies _ rfl _ _ 33 rfl 0 9 i0 (.string .empty) 1 16 Try.underlying33 hi hz0 hz1 hz2 rfl (by decide) _ _ _ rfl hrow ⟨w1.heap.size, 0, none⟩ 1 1 [.string ⟨x.toArray⟩] rfl rfl ?c1 ?c2 (by decide) ?c3 ?c4 ?c5 _ rfl ?_)
  case c1 =>
    intro j u hj
    match j, hj with
    | 0, hj => simp at hj; subst hj; simp [Addr.add]
  case c2 => intro u hu; simp at hu; subst hu; rfl
  case c3 => unfold maxLen; omega
  case c4 => omega
  case c5 => omega
  intro g cap' w2 hown hgrow hat hlt
  have hz1' := alloc_size w1 (.cells #[.string ⟨x.toArray⟩] 9)
  have f2 : Frm (fun k => (Value.slice ao L.length cap).ownBlock = some k) w1 w2 := Frm.trans ((Frm.refl _ w1).alloc _) (⟨hgrow.os, hgrow.tape, hgrow.output, hgrow.size, fun q hq hn => hgrow.block q hq (fun e => hn e.symm)⟩ : Frm (fun k => (Value.slice ao L.length cap).ownBlock = some k) _ w2) (fun _ _ h => h)
  have hb2 : w2.heap[tb]? = some (.cells #[.int .i64 most, v, .map (some mb)] 124 (0, 0)) := by rw [f2.block tb lt (fun e => n3 e)]; exact kb.out
  have e1 : w2.cell? ⟨tb, 1, none⟩ = some v := blk_cells hb2 rfl
  have z1 : w2.frozen? ⟨tb, 1, none⟩ = false := blk_fz hb2 1
  have gt : g ≠ tb := fun e => by
    rcases hat with h | h
    · exact n3 (by rw [h, e])
    · omega
  have gm : g ≠ mb := fun e => by
    rcases hat with h | h
    · exact n2 (by rw [h, e])
    · omega
  have f3 := frm_set w2 tb 1 (.slice (some ⟨g, 0, none⟩) (L.length + 1) cap')
  have hb3 := heap_set (i := 1) (.slice (some ⟨g, 0, none⟩) (L.length + 1) cap') hb2
  have e2 : (w2.setCell ⟨tb, 1, none⟩ (.slice (some ⟨g, 0, none⟩) (L.length + 1) cap')).cell? ⟨tb, 2, none⟩ = some (.map (some mb)) := blk_cells hb3 rfl
  have km3 := (kk.out.kept f2 (fun e => n2 e)).kept f3 (fun e => n1 e.symm)
  obtain ⟨w4, hput, km4, f4⟩ := km3.put (x := x) (by have : maxLen = 9223372036854775807 := rfl; omega) (by simp [idx, hm]) L.length (by have : maxLen = 9223372036854775807 := rfl; omega)
  simp only [strV] at hput
  have ko := hid hown
  have kf2 := hid f2
  have kb3 := hid hb3
  have km := hid km4
  have kf4 := hid f4
  clear hown f2 hb3 km4 f4 km3 hrow hb2 hgrow kb kk f3
  go_wp2_with fail
  go_ret
  have fA : Frm (fun k => k = tb ∨ k = mb ∨ v.ownBlock = some k) w1 w4 := Frm.trans (Frm.trans (Frm.mono kf2.out (fun _ _ h => Or.inr (Or.inr (by rw [hv]; exact h)))) (frm_set w2 tb 1 _) (fun _ _ h => Or.inl h)) kf4.out (fun _ _ h => Or.inr (Or.inl h))
  refine ⟨rfl, .slice (some ⟨g, 0, none⟩) (L.length + 1) cap', ⟨?_, ?_, ?_⟩, ?_, ?_, Nat.le_trans k1.out.size fA.size⟩
  · rw [kf4.out.block tb (by rw [(show (w2.setCell ⟨tb, 1, none⟩ (.slice (some ⟨g, 0, none⟩) (L.length + 1) cap')).heap.size = w2.heap.size from by simp [World.setCell])]; exact Nat.lt_of_lt_of_le lt kf2.out.size) n1]
    exact kb3.out
  · rw [List.length_append, strs_snoc]
    refine owns_kept (owns_kept ko.out (fun k hk => (frm_set w2 tb 1 _).block k ?_ ?_)) (fun k hk => kf4.out.block k ?_ ?_)
    · simp [Value.ownBlock] at hk; omega
    · simp [Value.ownBlock] at hk; omega
    · simp [Value.ownBlock] at hk; simp [World.setCell]; omega
    · simp [Value.ownBlock] at hk; omega
  · rw [List.length_append, idx_snoc L x hm]
    exact km.out
  · exact Frm.trans (Frm.mono k1.out (fun _ _ h => h.elim)) fA (fun _ _ h => h)
  · intro k hk
    simp [Value.ownBlock] at hk
    subst hk
    have := k1.out.size
    rcases hat with h | h
    · exact Or.inl (by rw [hv]; exact h)
    · exact Or.inr (by omega)

set_option maxRecDepth 100000 in
set_option maxHeartbeats 1000000 in
theorem add_good (hb tb mb : Nat) (v : Value) (most : Int) (L : List (List UInt8)) (x : List UInt8) (w : World) (h : Nms w hb tb mb v most L) (hL : L.length ≤ 1048576) (hr : refZ L most x = 0) :
    Calls Try.prog 41 #[.pointer (some ⟨hb, 0, none⟩), .string ⟨x.toArray⟩] w fun e w' => e = .returned (.tuple #[.int .i64 (L.length : Int), .int .i64 0]) ∧ ∃ v', Nms w' hb tb mb v' most (L ++ [x]) ∧ Frm (fun k => k = tb ∨ k = mb ∨ v.ownBlock = some k) w w' ∧ (∀ k, v'.ownBlock = some k → v.ownBlock = some k ∨ w.heap.size ≤ k) := by
  have hx : chkZ x = 0 ∧ x ∉ L := by
    unfold refZ at hr
    split at hr
    · omega
    · split at hr
      · omega
      · rename_i h1 h2
        exact ⟨by simpa using h1, h2⟩
  have hx2 : x.length ≤ 64 := by
    have := hx.1
    unfold chkZ at this
    split at this <;> omega
  have c0 := h.c0
  have kn := hid (none_some hb tb w c0)
  have kR := hid (refusal_any tb mb v most L x w h.t hL)
  rw [hr] at kR
  have kA := fun n => hid (tadd_any tb mb v most L x (w.drewN n) (h.t.old ((Old.refl w).drewN n)) hL hx2 hx.2)
  have kh := hid h
  clear h
  go_enter Try.func41, Try.ntmps41
  go_wp2_with (go_at_call 67; refine kn.out.mono ?_; rintro e w' ⟨rfl, rfl⟩)
  refine kR.out.mono ?_
  rintro e w1 ⟨rfl, n, rfl⟩
  go_wp2_with fail
  refine (kA n).out.mono ?_
  rintro e w2 ⟨rfl, v', hT, hf, hv, _⟩
  go_wp2_with fail
  go_ret2
  have hf' : Frm (fun k => k = tb ∨ k = mb ∨ v.ownBlock = some k) _ w2 := Frm.trans ((Frm.refl _ _).drewN n) hf (fun _ _ h => h)
  obtain ⟨m1, m2, m3⟩ := kh.out.ne0
  refine ⟨rfl, v', ⟨?_, hT⟩, hf', hv⟩
  rw [hf'.block hb (blk_lt kh.out.hd) (fun h => h.elim m1 (fun h => h.elim m2 m3))]
  exact kh.out.hd

set_option maxRecDepth 100000 in
set_option maxHeartbeats 1000000 in
theorem add_bad (hb tb mb : Nat) (v : Value) (most : Int) (L : List (List UInt8)) (x : List UInt8) (w : World) (h : Nms w hb tb mb v most L) (hL : L.length ≤ 1048576) (hr : refZ L most x ≠ 0) :
    Calls Try.prog 41 #[.pointer (some ⟨hb, 0, none⟩), .string ⟨x.toArray⟩] w fun e w' => e = .returned (.tuple #[.int .i64 0, .int .i64 (refZ L most x)]) ∧ Old w w' := by
  have c0 := h.c0
  have kn := hid (none_some hb tb w c0)
  have kR := hid (refusal_any tb mb v most L x w h.t hL)
  clear h
  generalize refZ L most x = r at *
  go_enter Try.func41, Try.ntmps41
  go_wp2_with (go_at_call 67; refine kn.out.mono ?_; rintro e w' ⟨rfl, rfl⟩)
  refine kR.out.mono ?_
  rintro e w1 ⟨rfl, n, rfl⟩
  go_wp2_with fail
  go_ret2
  exact ⟨rfl, (Old.refl _).drewN n⟩

set_option maxRecDepth 100000 in
theorem find_any (hb tb mb : Nat) (v : Value) (most : Int) (L : List (List UInt8)) (x : List UInt8) (w : World) (h : Nms w hb tb mb v most L) (hx : x.length ≤ maxLen) :
    Calls Try.prog 56 #[.pointer (some ⟨hb, 0, none⟩), .string ⟨x.toArray⟩] w fun e w' => e = .returned (.tuple #[numV (idx L x), .bool (idx L x).isSome]) ∧ w' = w := by
  have c0 := h.c0
  have c2 := h.t.cell2
  have kn := hid (none_some hb tb w c0)
  have hl := h.t.km.look hx
  simp only [strV, numV] at hl ⊢
  clear h
  go_enter Try.func56, Try.ntmps56
  go_wp2_with (go_at_call 67; refine kn.out.mono ?_; rintro e w' ⟨rfl, rfl⟩)
  go_ret2
  exact ⟨rfl, rfl⟩
end Go.Proofs.Ytlhlmkdgbgppiaa
