/- nothing: ledgers that are not there, and zero ones: walked. -/
import Derived.Test.YtlhlmkdgbgppiaaL13
namespace Go.Proofs.Ytlhlmkdgbgppiaa
open Go.RowKit Go.Lib Go.Shelf Go.Maps
attribute [local go_sem] Oper.semAt_some


set_option maxRecDepth 100000 in
set_option maxHeartbeats 8000000 in
theorem nothing_any (p : Option Addr) (s : ByteArray) (n : Int) (w : World) (h : NM w p) : Calls Try.prog 19 #[.pointer p, .string s, .int .i64 n] w fun e w' => e = .returned (.bool true) ∧ Old w w' := by
  have hfn1 : ∀ w : World, (binOp BinOp.eql 97 (.func (.func 62) #[] #[]) .nilFunc).run Try.prog w = .ok (.bool false) w := fun _ => by kernel_rfl
  have hfn2 : ∀ w : World, (binOp BinOp.eql 100 (.func (.func 65) #[] #[]) .nilFunc).run Try.prog w = .ok (.bool false) w := fun _ => by kernel_rfl
  have hfn3 : ∀ w : World, (binOp BinOp.eql 119 (.func (.func 76) #[] #[]) .nilFunc).run Try.prog w = .ok (.bool false) w := fun _ => by kernel_rfl
  have heq : ∀ w : World, (binOp BinOp.eql 82 (.agg #[.string .empty, .int .i64 0, .int .i64 0]) (.agg #[.string .empty, .int .i64 0, .int .i64 0])).run Try.prog w = .ok (.bool true) w := fun _ => by kernel_rfl
  have o0 : Old w (w.alloc (.cells #[.bool false] 4)) := (Old.refl w).alloc _
  have b0 := Boxed.new w 4 (.bool false)
  have kh := hid (h.old o0)
  have ko := hid o0
  obtain ⟨s0, hs0⟩ : ∃ s0, w.heap.size = s0 := ⟨_, rfl⟩
  have z0 := alloc_size w (.cells #[.bool false] 4)
  rw [hs0] at b0 z0
  have kb := hid b0
  have kz := hid z0
  have ks := hid hs0
  clear h o0 b0 z0
  refine (callsIn_wide (n := 5)).1 ?_
  refine callsIn_of_wp_marks Try.func19 rfl trivial ?_ rfl
  simp only [Try.ntmps19, List.size_toArray, List.length_cons, List.length_nil, Nat.reduceAdd, Nat.reduceSub, Array.replicate_succ, Array.replicate_zero, List.push_toArray, List.append_toArray, List.nil_append, List.cons_append]
  refine wpIn_wide.2 ?_
  go_upto_region 1 with fail
  clear hs0
  generalize w.alloc (.cells #[.bool false] 4) = W1 at *
  go_wp2_with fail
  refine (open_no p s n _ kh.out).mono ?_
  rintro e w' ⟨rfl, e2⟩
  rw [e2]
  clear e2
  go_wp2_with fail
  refine (post_no p _ _ kh.out).mono ?_
  rintro e w' ⟨rfl, e2⟩
  rw [e2]
  clear e2
  go_wp2_with fail
  refine (has_no p s _ kh.out).mono ?_
  rintro e w' ⟨rfl, e2⟩
  rw [e2]
  clear e2
  go_wp2_with fail
  refine (account_no p 0 _ kh.out).mono ?_
  rintro e W2 ⟨rfl, o2⟩
  have oa : Old W2 (W2.alloc (.cells #[.string .empty, .int .i64 0, .int .i64 0] 82)) := (Old.refl W2).alloc _
  have na := heap_new W2 (.cells #[.string .empty, .int .i64 0, .int .i64 0] 82)
  have kh2 := hid ((kh.out.old o2).old oa)
  have ko2 := hid ((ko.out.trans o2).trans oa)
  have kb2 := hid (boxed_olds (boxed_olds kb.out o2) oa)
  have kz2 : Hid (s0 + 1 ≤ W2.heap.size) := hid (by have := o2.size; have := kz.out; omega)
  clear kh ko kb o2 oa kz
  go_wp2_with fail
  obtain ⟨ba, hba⟩ : ∃ ba, W2.heap.size = ba := ⟨_, rfl⟩
  rw [hba] at na kz2 ⊢
  clear hba
  have kna := hid na
  clear na
  generalize W2.alloc (.cells #[.string .empty, .int .i64 0, .int .i64 0] 82) = W3 at *
  refine (posting_no p n _ kh2.out).mono ?_
  rintro e w' ⟨rfl, e2⟩
  rw [e2]
  clear e2
  go_wp2_with fail
  refine (back_no p n _ kh2.out).mono ?_
  rintro e w' ⟨rfl, e2⟩
  rw [e2]
  clear e2
  go_wp2_with fail
  refine (len_no p _ kh2.out).mono ?_
  rintro e w' ⟨rfl, e2⟩
  rw [e2]
  clear e2
  go_wp2_with fail
  refine (accounts_no p _ kh2.out).mono ?_
  rintro e w' ⟨rfl, e2⟩
  rw [e2]
  clear e2
  go_wp2_with fail
  refine (all_no p _ kh2.out).mono ?_
  rintro e w' ⟨rfl, e2⟩
  rw [e2]
  clear e2
  go_wp2_with fail
  refine (line_no p s _ kh2.out).mono ?_
  rintro e w' ⟨rfl, e2⟩
  rw [e2]
  clear e2
  go_wp2_with fail
  refine range_joinP (n := 5) (by omega) (gf := 62) (lb := #[]) rfl (enters_of Try.func62 (by kernel_rfl) rfl) (accounts1_no 4 _) (fun h k => h.trans k) (fun W l o o' _ h1 h2 => KeptC.put W l o o' h1 h2) (fun _ => rfl) 0 (fun _ Y => Old W3 Y) (fun _ _ => False) (fun _ Y => Old W3 Y) (fun p A B h hf => Frm.trans h hf (fun i hi e => by omega)) (fun p A B h hf => h) (Old.refl _) (fun _ t => (t.setIfInBounds 82 (.int .i64 0)).setIfInBounds 83 (.int .i64 0)) ?as1 ?bo1 (fun q W _ h => h) (fun q W h _ => h.elim) ?hq1 ?en1
  case as1 =>
    intro l' x W K hK
    simp only [List.setIfInBounds_toArray, List.set_cons_zero, List.set_cons_succ] at hK
    gi_wp2
    simp only [encU, List.zip_toArray, List.zip_cons_cons, List.zip_nil_right, List.foldl_toArray, List.foldl_cons, List.foldl_nil, List.setIfInBounds_toArray, List.set_cons_zero, List.set_cons_succ]
    exact hK
  case bo1 => intro l' q x Y _ h; exact h.elim
  case hq1 => intro b W h; exact inBlock_both (Or.inr rfl) h
  case en1 =>
    rintro D1 q Y1 hD1 hO1 hK1
    have kh3 := hid (kh2.out.old hO1)
    have ko3 := hid (ko2.out.trans hO1)
    have kb3 := hid (boxed_olds kb2.out hO1)
    have kn3 := hid (show Y1.heap[ba]? = some (.cells #[.string .empty, .int .i64 0, .int .i64 0] 82 (0, 0)) by rw [hO1.block _ (blk_lt kna.out) (fun h => h)]; exact kna.out)
    have km1 := hid hK1
    have kd1 := hid (show s0 + 1 ≤ D1 by have := kz2.out; have := blk_lt kna.out; omega)
    clear kh2 ko2 kb2 kna hO1 hK1 hD1
    refine inBlock_both (Or.inl rfl) ?_
    dsimp only
    go_wp2_with fail
    refine range_joinP (n := 5) (by omega) (gf := 65) (lb := #[]) rfl (enters_of Try.func65 (by kernel_rfl) rfl) (all1_no 4 _) (fun h k => h.trans k) (fun W l o o' _ h1 h2 => KeptC.put W l o o' h1 h2) (fun _ => rfl) 2 (fun _ Y => Old Y1 Y) (fun _ _ => False) (fun _ Y => Old Y1 Y) (fun p A B h hf => Frm.trans h hf (fun i hi e => by omega)) (fun p A B h hf => h) (Old.refl _) (fun _ t => (t.setIfInBounds 85 (.int .i64 0)).setIfInBounds 86 (.int .i64 0)) ?as2 ?bo2 (fun q W _ h => h) (fun q W h _ => h.elim) ?hq2 ?en2
    case as2 =>
      intro l' x W K hK
      simp only [List.setIfInBounds_toArray, List.set_cons_zero, List.set_cons_succ] at hK
      gi_wp2
      simp only [encU, List.zip_toArray, List.zip_cons_cons, List.zip_nil_right, List.foldl_toArray, List.foldl_cons, List.foldl_nil, List.setIfInBounds_toArray, List.set_cons_zero, List.set_cons_succ]
      exact hK
    case bo2 => intro l' q x Y _ h; exact h.elim
    case hq2 => intro b W h; exact inBlock_both (Or.inr rfl) h
    case en2 =>
      rintro D2 q2 Y2 hD2 hO2 hK2
      have kh4 := hid (kh3.out.old hO2)
      have ko4 := hid (ko3.out.trans hO2)
      have kb4 := hid (boxed_olds kb3.out hO2)
      have kn4 := hid (show Y2.heap[ba]? = some (.cells #[.string .empty, .int .i64 0, .int .i64 0] 82 (0, 0)) by rw [hO2.block _ (blk_lt kn3.out) (fun h => h)]; exact kn3.out)
      have km2 := hid hK2
      have km1b := hid (show Y2.heap[D1]? = some (.deferred (some [])) by rw [hO2.block _ (blk_lt km1.out) (fun h => h)]; exact km1.out)
      have kd2 := hid (show D1 < D2 by have := blk_lt km1.out; omega)
      clear kh3 ko3 kb3 kn3 hO2 hK2 hD2 km1
      refine inBlock_both (Or.inl rfl) ?_
      dsimp only
      go_wp2_with fail
      refine range_joinP (n := 5) (by omega) (gf := 76) (lb := #[]) rfl (enters_of Try.func76 (by kernel_rfl) rfl) (line1_no 4 _) (fun h k => h.trans k) (fun W l o o' _ h1 h2 => KeptC.put W l o o' h1 h2) (fun _ => rfl) 4 (fun _ Y => Old Y2 Y) (fun _ _ => False) (fun _ Y => Old Y2 Y) (fun p A B h hf => Frm.trans h hf (fun i hi e => by omega)) (fun p A B h hf => h) (Old.refl _) (fun _ t => (t.setIfInBounds 88 (.int .i64 0)).setIfInBounds 89 (.int .i64 0)) ?as3 ?bo3 (fun q W _ h => h) (fun q W h _ => h.elim) ?hq3 ?en3
      case as3 =>
        intro l' x W K hK
        simp only [List.setIfInBounds_toArray, List.set_cons_zero, List.set_cons_succ] at hK
        gi_wp2
        simp only [encU, List.zip_toArray, List.zip_cons_cons, List.zip_nil_right, List.foldl_toArray, List.foldl_cons, List.foldl_nil, List.setIfInBounds_toArray, List.set_cons_zero, List.set_cons_succ]
        exact hK
      case bo3 => intro l' q x Y _ h; exact h.elim
      case hq3 => intro b W h; exact inBlock_both (Or.inr rfl) h
      case en3 =>
        rintro D3 q3 Y3 hD3 hO3 hK3
        have kh5 := hid (kh4.out.old hO3)
        have ko5 := hid (ko4.out.trans hO3)
        have kb5 := hid (boxed_olds kb4.out hO3)
        have kn5 : Y3.heap[ba]? = some (.cells #[.string .empty, .int .i64 0, .int .i64 0] 82 (0, 0)) := by rw [hO3.block _ (blk_lt kn4.out) (fun h => h)]; exact kn4.out
        have c0 : Y3.cell? ⟨ba, 0, none⟩ = some (.string .empty) := blk_cells kn5 rfl
        have c1 : Y3.cell? ⟨ba, 1, none⟩ = some (.int .i64 0) := blk_cells kn5 rfl
        have c2 : Y3.cell? ⟨ba, 2, none⟩ = some (.int .i64 0) := blk_cells kn5 rfl
        have rc := kb5.out.cell
        have rf := kb5.out.frozen
        have km3 := hid hK3
        have km1c := hid (show Y3.heap[D1]? = some (.deferred (some [])) by rw [hO3.block _ (blk_lt km1b.out) (fun h => h)]; exact km1b.out)
        have km2b := hid (show Y3.heap[D2]? = some (.deferred (some [])) by rw [hO3.block _ (blk_lt km2.out) (fun h => h)]; exact km2.out)
        have kd3 := hid (show D2 < D3 by have := blk_lt km2.out; omega)
        have kMay := hid (may_no p (.slice none 0 0) Y3 kh5.out)
        have kCp := hid (copy_no p Y3 kh5.out)
        clear kh4 ko4 kb4 kn4 hO3 hK3 hD3 km1b km2 kn5
        refine inBlock_both (Or.inl rfl) ?_
        dsimp only
        go_wp2_with fail
        refine kMay.out.mono ?_
        rintro e w' ⟨rfl, e2⟩
        rw [e2]
        clear e2
        go_wp2_with fail
        refine kCp.out.mono ?_
        rintro e w' ⟨rfl, e2⟩
        rw [e2]
        clear e2
        go_wp2_with fail
        have hfx := frm_set Y3 s0 0 (.bool true)
        have l0 := kd1.out
        have l1 := kd2.out
        have l2 := kd3.out
        refine leave_marks [D3, D2, D1] _ ⟨by simp; omega, fun r hr => ?_⟩ (fun W' hW' => ?_)
        · simp only [List.mem_cons, List.not_mem_nil, or_false] at hr
          rcases hr with rfl | rfl | rfl
          · rw [hfx.block r (blk_lt km3.out) (by omega)]
            exact km3.out
          · rw [hfx.block r (blk_lt km2b.out) (by omega)]
            exact km2b.out
          · rw [hfx.block r (blk_lt km1c.out) (by omega)]
            exact km1c.out
        · have hge : ∀ r ∈ [D3, D2, D1], s0 + 1 ≤ r := fun r hr => by
            simp only [List.mem_cons, List.not_mem_nil, or_false] at hr
            rcases hr with rfl | rfl | rfl <;> omega
          have hc0 := (boxed_frm (Boxed.set (.bool true) kb5.out) hW' (fun h => by have := hge _ h; omega)).cell
          refine ⟨.bool true, ?_, rfl, ?_⟩
          · simp [results, Try.f19, go_sem, hc0]
          · exact Frm.trans (Frm.trans ko5.out hfx (fun i hi e => by have := ks.out; omega)) hW' (fun i hi e => by have := ks.out; have := hge _ e; omega)
end Go.Proofs.Ytlhlmkdgbgppiaa
