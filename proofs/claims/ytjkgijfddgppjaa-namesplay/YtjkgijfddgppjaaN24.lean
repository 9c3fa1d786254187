/- The document's table: a name comes. -/
import Derived.Test.YtjkgijfddgppjaaN23
import Derived.Laws.AppendOwnNone
namespace Go.Proofs.Ytjkgijfddgppjaa
open Go.RowKit Go.Sort

set_option maxRecDepth 100000 in
set_option maxHeartbeats 2000000 in
theorem dadd_bad (rb : Nat) (v : Value) (most : Int) (L : List (List UInt8)) (x : List UInt8) (w : World) (h : Doc w rb v most L) (hL : L.length ≤ 1048576) (hr : refZ L most x ≠ 0) :
    Calls Try.prog 25 #[.pointer (some ⟨rb, 0, none⟩), .string ⟨x.toArray⟩] w fun e w' => e = .returned (.tuple #[.int .i64 0, .int .i64 (refZ L most x)]) ∧ Old w w' := by
  have c0 := h.c0
  have c1 := h.c1
  obtain ⟨ao, cap, hv⟩ := h.lst.form
  rw [hv] at c0
  have kC := hid (dcheck_any x w)
  have kF := hid (dfind_any rb v most L x w h hL)
  unfold refZ at hr ⊢
  clear h
  by_cases hc : chkZ x = 0
  · rw [if_neg (by simpa using hc)] at hr ⊢
    rw [hc] at kC
    by_cases hm : x ∈ L
    · rw [if_pos hm]
      simp only [idx, if_pos hm, numV, Option.isSome_some, Option.getD_some] at kF
      generalize L.idxOf x = ii at *
      go_enter Try.func25, Try.ntmps25
      go_wp2_with fail
      refine kC.out.mono ?_
      rintro e w' ⟨rfl, e1⟩
      rw [e1]
      clear e1 w'
      go_wp2_with fail
      refine kF.out.mono ?_
      rintro e w' ⟨rfl, e1⟩
      rw [e1]
      clear e1 w'
      go_wp2_with fail
      go_ret2
      exact ⟨rfl, Old.refl _⟩
    · rw [if_neg hm] at hr ⊢
      simp only [idx, if_neg hm, numV, Option.isSome_none, Option.getD_none] at kF
      generalize L.length = n at *
      have hq : most ≤ n := by
        apply Classical.byContradiction
        intro hq
        rw [if_neg hq] at hr
        exact hr rfl
      rw [if_pos hq]
      go_enter Try.func25, Try.ntmps25
      go_wp2_with fail
      refine kC.out.mono ?_
      rintro e w' ⟨rfl, e1⟩
      rw [e1]
      clear e1 w'
      go_wp2_with fail
      refine kF.out.mono ?_
      rintro e w' ⟨rfl, e1⟩
      rw [e1]
      clear e1 w'
      go_wp2_with fail
      go_quiet (fail)
      go_wp2_with fail
      go_ret2
      exact ⟨rfl, (Old.refl _).drewN _⟩
  · rw [if_pos hc]
    generalize chkZ x = c at *
    have hne : (c != 0) = true := by simpa using hc
    go_enter Try.func25, Try.ntmps25
    go_wp2_with fail
    refine kC.out.mono ?_
    rintro e w' ⟨rfl, e1⟩
    rw [e1]
    clear e1 w'
    go_wp2_with fail
    go_ret2
    exact ⟨rfl, Old.refl _⟩

theorem row_list {w : World} {B : Nat} {v : Value} {L : List (List UInt8)} (h : w.ownsRow B 9 1 v L.length (strs L)) (h0 : 0 < L.length) : ListAt w v L := by
  rcases h.2 with ⟨rfl, hz⟩ | ⟨g, cap, cur, rfl, h3, h4, h5, h6, h7, h8⟩
  · omega
  · refine Or.inr ⟨g, cap, rfl, h0, fun i hi => blk_cells h4 ?_⟩
    have h9 : (cur.toList.take (L.length * 1))[i]? = (strs L)[i]? := by rw [h8]
    rw [List.getElem?_take_of_lt (by omega)] at h9
    simpa [strs, hi] using h9


set_option maxRecDepth 100000 in
set_option maxHeartbeats 2000000 in
theorem dadd_good (rb : Nat) (v : Value) (most : Int) (L : List (List UInt8)) (x : List UInt8) (w : World) (h : Doc w rb v most L) (hL : L.length ≤ 1048576) (hr : refZ L most x = 0) :
    Calls Try.prog 25 #[.pointer (some ⟨rb, 0, none⟩), .string ⟨x.toArray⟩] w fun e w' => e = .returned (.tuple #[.int .i64 (L.length : Int), .int .i64 0]) ∧ ∃ v', Doc w' rb v' most (L ++ [x]) ∧ Frm (fun k => k = rb) w w' ∧ ∀ k, v'.ownBlock = some k → w.heap.size ≤ k := by
  obtain ⟨i9, hi, hz0, hz1, hz2⟩ := info_parts info9
  have c0 := h.c0
  have c1 := h.c1
  have hlr := blk_lt h.blk
  obtain ⟨hm, hx1, hx2, hlm⟩ : x ∉ L ∧ 1 ≤ x.length ∧ x.length ≤ 64 ∧ (L.length : Int) < most := by
    unfold refZ at hr
    split at hr
    · omega
    · split at hr
      · omega
      · split at hr
        · omega
        · rename_i h1 h2 h3
          have : chkZ x = 0 := by simpa using h1
          unfold chkZ at this
          split at this
          · exact ⟨h2, by omega, by omega, by omega⟩
          · omega
  have hc : chkZ x = 0 := by unfold chkZ; rw [if_pos ⟨hx1, hx2⟩]
  have kC := hid (dcheck_any x w)
  have kF := hid (dfind_any rb v most L x w h hL)
  rw [hc] at kC
  simp only [idx, if_neg hm, numV, Option.isSome_none, Option.getD_none] at kF
  have kb := hid h.blk
  have kl := hid h.lst
  obtain ⟨ao, cap, hv⟩ := h.lst.form
  rw [hv] at c0
  have hd : decide (most ≤ (L.length : Int)) = false := decide_eq_false (by omega)
  clear h hr hc
  go_enter Try.func25, Try.ntmps25
  go_wp2_with fail
  refine kC.out.mono ?_
  rintro e w' ⟨rfl, e1⟩
  rw [e1]
  clear e1 w'
  go_wp2_with fail
  refine kF.out.mono ?_
  rintro e w' ⟨rfl, e1⟩
  rw [e1]
  clear e1 w'
  go_wp2_with fail
  go_quiet (fail)
  have oq : Old w (w.drewN nq) := (Old.refl w).drewN nq
  have c0 := oq.cell c0
  generalize w.drewN nq = w1 at *
  clear c1 kC kF
  have hnil : w1.ownsRow w.heap.size 9 1 (.slice none 0 0) 0 [] := ⟨rfl, Or.inl ⟨rfl, rfl⟩⟩
  have hs1 := oq.size
  rcases kl.out with ⟨rfl, hv0⟩ | ⟨g, cap', hv', h0, hcs⟩
  · rw [hv0] at hv
    simp only [Value.slice.injEq] at hv
    obtain ⟨rfl, -, rfl⟩ := hv
    go_wp2_with (first | (at_builtin; refine wpList_append_own_none rfl _ _ 49 rfl w.heap.size 9 i9 1 Try.underlying49 hi (.slice none 0 0) 0 [] rfl hnil rfl ?_) | (at_builtin; refine wpList_append_lies _ rfl _ _ 49 rfl w.heap.size 9 i9 (.string .empty) 1 16 Try.underlying49 hi hz0 hz1 hz2 rfl (by decide) _ _ _ rfl (hnil.alloc (.cells #[.string ⟨x.toArray⟩] 9)) ⟨w1.heap.size, 0, none⟩ 1 1 [.string ⟨x.toArray⟩] rfl rfl ?c1 ?c2 (by decide) ?c3 ?c4 ?c5 _ rfl ?_))
    case c1 =>
      intro j u hj
      match j, hj with
      | 0, hj => simp at hj; subst hj; simp [Addr.add]
    case c2 => intro u hu; simp at hu; subst hu; rfl
    case c3 => unfold maxLen; omega
    case c4 => omega
    case c5 => have := oq.size; simp; omega
    intro g2 cap2 w3 hown3 hgrow3 hat3 hlt3
    have o3 : Old w w3 := by
      refine Frm.trans (Old.trans oq ((Old.refl _).alloc _)) (⟨hgrow3.os, hgrow3.tape, hgrow3.output, hgrow3.size, fun q hq hn => hgrow3.block q hq (fun e => hn e.symm)⟩ : Frm (fun k => (Value.slice none 0 0).ownBlock = some k) _ w3) (fun k hk he => ?_)
      have := (hnil.lt k he).1
      omega
    have hg2 : w.heap.size ≤ g2 := by
      rcases hat3 with h | h
      · exact (hnil.lt g2 h).1
      · have := (oq).size; (try rw [alloc_size] at h); omega
    have hb3 : w3.heap[rb]? = some (.cells #[v, .int .i64 most] 72 (0, 0)) := by rw [o3.block rb hlr (fun h => h)]; exact kb.out
    have d0 : w3.cell? ⟨rb, 0, none⟩ = some v := blk_cells hb3 rfl
    have z0 : w3.frozen? ⟨rb, 0, none⟩ = false := blk_fz hb3 0
    have hb4 := heap_set (i := 0) (.slice (some ⟨g2, 0, none⟩) ((([] : List (List UInt8))).length + 1) cap2) hb3
    have d1 : (w3.setCell ⟨rb, 0, none⟩ (.slice (some ⟨g2, 0, none⟩) ((([] : List (List UInt8))).length + 1) cap2)).cell? ⟨rb, 0, none⟩ = some (.slice (some ⟨g2, 0, none⟩) ((([] : List (List UInt8))).length + 1) cap2) := blk_cells hb4 rfl
    have ko := hid hown3
    have k3 := hid o3
    have k4 := hid hb4
    clear hown3 hgrow3 hat3 hb3 hb4 o3
    go_wp2_with fail
    go_ret2
    have hl : (((([] : List (List UInt8))).length + 1 : Nat) : Int) - 1 = ((([] : List (List UInt8))).length : Int) := by omega
    refine ⟨by first | rfl | (simp only [Ending.returned.injEq, Value.tuple.injEq]; congr 2; omega), .slice (some ⟨g2, 0, none⟩) ((([] : List (List UInt8))).length + 1) cap2, ⟨k4.out, ?_⟩, ?_, ?_⟩
    · have hne : g2 ≠ rb := by omega
      have h5 : ListAt w3 (.slice (some ⟨g2, 0, none⟩) (([] : List (List UInt8)) ++ [x]).length cap2) (([] : List (List UInt8)) ++ [x]) := row_list (B := w.heap.size) (by rw [strs_snoc, List.length_append]; exact ko.out) (by simp)
      rw [List.length_append] at h5
      exact h5.frm (frm_set w3 rb 0 _) (fun k hk => by simp [Value.ownBlock] at hk; omega)
    · exact Frm.trans (Frm.mono k3.out (fun _ _ h => h.elim)) (frm_set w3 rb 0 _) (fun _ _ h => h)
    · intro k hk
      simp [Value.ownBlock] at hk
      omega
  · rw [hv'] at hv
    simp only [Value.slice.injEq, true_and] at hv
    obtain ⟨rfl, rfl⟩ := hv
    have hcs1 : ∀ j u, (strs L)[j]? = some u → w1.cell? ((⟨g, 0, none⟩ : Addr).add j) = some u := fun j u hu => by
      have hj : j < L.length := by
        have := (List.getElem?_eq_some_iff.1 hu).1
        simpa [strs] using this
      have hadd : (⟨g, 0, none⟩ : Addr).add j = ⟨g, j, none⟩ := by unfold Addr.add; split <;> simp_all
      rw [hadd, oq.cell (hcs j hj)]
      simpa [strs, hj] using hu
    have hone : ∀ u ∈ strs L, u.oneCell' = true := fun u hu => by
      simp only [strs, List.mem_map] at hu
      obtain ⟨y, _, rfl⟩ := hu
      rfl
    go_wp2_with (at_builtin; refine wpList_append_lies _ rfl _ _ 49 rfl w.heap.size 9 i9 (.string .empty) 1 16 Try.underlying49 hi hz0 hz1 hz2 rfl (by decide) _ _ _ rfl hnil ⟨g, 0, none⟩ L.length _ (strs L) rfl (by simp [strs]) hcs1 hone h0 (by unfold maxLen; omega) (by omega) hs1 _ rfl ?_)
    intro g1 cap1 w2 hown2 hgrow2 hat2 hlt2
    have o2 : Old w w2 := Old.trans oq (⟨hgrow2.os, hgrow2.tape, hgrow2.output, hgrow2.size, fun q hq _ => hgrow2.block q hq (by simp [Value.ownBlock])⟩ : Old w1 w2)
    have hown2 : w2.ownsRow w.heap.size 9 1 (.slice (some ⟨g1, 0, none⟩) L.length cap1) L.length (strs L) := by simpa using hown2
    try simp only [Nat.zero_add]
    clear hgrow2 hat2 hlt2 hcs1 hone hnil c0
    go_wp2_with (first | (at_builtin; refine wpList_append_lies _ rfl _ _ 49 rfl w.heap.size 9 i9 (.string .empty) 1 16 Try.underlying49 hi hz0 hz1 hz2 rfl (by decide) _ _ _ rfl (hown2.alloc (.cells #[.string ⟨x.toArray⟩] 9)) ⟨w2.heap.size, 0, none⟩ 1 1 [.string ⟨x.toArray⟩] rfl rfl ?c1 ?c2 (by decide) ?c3 ?c4 ?c5 _ rfl ?_))
    case c1 =>
      intro j u hj
      match j, hj with
      | 0, hj => simp at hj; subst hj; simp [Addr.add]
    case c2 => intro u hu; simp at hu; subst hu; rfl
    case c3 => unfold maxLen; omega
    case c4 => omega
    case c5 => have := o2.size; simp; omega
    intro g2 cap2 w3 hown3 hgrow3 hat3 hlt3
    have o3 : Old w w3 := by
      refine Frm.trans (Old.trans o2 ((Old.refl _).alloc _)) (⟨hgrow3.os, hgrow3.tape, hgrow3.output, hgrow3.size, fun q hq hn => hgrow3.block q hq (fun e => hn e.symm)⟩ : Frm (fun k => (Value.slice (some ⟨g1, 0, none⟩) L.length cap1).ownBlock = some k) _ w3) (fun k hk he => ?_)
      have := (hown2.lt k he).1
      omega
    have hg2 : w.heap.size ≤ g2 := by
      rcases hat3 with h | h
      · exact (hown2.lt g2 h).1
      · have := (o2).size; (try rw [alloc_size] at h); omega
    have hb3 : w3.heap[rb]? = some (.cells #[v, .int .i64 most] 72 (0, 0)) := by rw [o3.block rb hlr (fun h => h)]; exact kb.out
    have d0 : w3.cell? ⟨rb, 0, none⟩ = some v := blk_cells hb3 rfl
    have z0 : w3.frozen? ⟨rb, 0, none⟩ = false := blk_fz hb3 0
    have hb4 := heap_set (i := 0) (.slice (some ⟨g2, 0, none⟩) ((L).length + 1) cap2) hb3
    have d1 : (w3.setCell ⟨rb, 0, none⟩ (.slice (some ⟨g2, 0, none⟩) ((L).length + 1) cap2)).cell? ⟨rb, 0, none⟩ = some (.slice (some ⟨g2, 0, none⟩) ((L).length + 1) cap2) := blk_cells hb4 rfl
    have ko := hid hown3
    have k3 := hid o3
    have k4 := hid hb4
    clear hown3 hgrow3 hat3 hb3 hb4 o3
    go_wp2_with fail
    go_ret2
    have hl : (((L).length + 1 : Nat) : Int) - 1 = ((L).length : Int) := by omega
    refine ⟨by first | rfl | (simp only [Ending.returned.injEq, Value.tuple.injEq]; congr 2; omega), .slice (some ⟨g2, 0, none⟩) ((L).length + 1) cap2, ⟨k4.out, ?_⟩, ?_, ?_⟩
    · have hne : g2 ≠ rb := by omega
      have h5 : ListAt w3 (.slice (some ⟨g2, 0, none⟩) (L ++ [x]).length cap2) (L ++ [x]) := row_list (B := w.heap.size) (by rw [strs_snoc, List.length_append]; exact ko.out) (by simp)
      rw [List.length_append] at h5
      exact h5.frm (frm_set w3 rb 0 _) (fun k hk => by simp [Value.ownBlock] at hk; omega)
    · exact Frm.trans (Frm.mono k3.out (fun _ _ h => h.elim)) (frm_set w3 rb 0 _) (fun _ _ h => h)
    · intro k hk
      simp [Value.ownBlock] at hk
      omega
end Go.Proofs.Ytjkgijfddgppjaa
