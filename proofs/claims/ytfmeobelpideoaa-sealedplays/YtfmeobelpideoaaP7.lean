/- Boxes that no call has made: what they answer; nothing: walked. -/
import Derived.Test.YtfmeobelpideoaaP6
import Derived.Test.YtfmeobelpideoaaW1
namespace Go.Proofs.Ytfmeobelpideoaa
open Go.RowKit Go.Lib Go.Shelf
attribute [local go_sem] Oper.semAt_some

/-- No call has made it. -/
def NM (w : World) (p : Option Addr) : Prop := ∀ W, Old w W → Calls Try.prog 41 #[.pointer p] W fun e w' => e = .returned (.bool false) ∧ w' = W
theorem NM.old {w w' : World} {p : Option Addr} (h : NM w p) (o : Old w w') : NM w' p := fun W oW => h W (o.trans oW)
theorem NM.nil (w : World) : NM w none := fun W _ => isMade_nil W
theorem NM.zero {w : World} {pb : Nat} (h : w.cell? ⟨pb, 0, none⟩ = some (.pointer none)) : NM w (some ⟨pb, 0, none⟩) := fun W o => isMade_zero pb W (o.cell h)

set_option maxRecDepth 100000 in
theorem nbid (p : Option Addr) (b c : Int) (w : World) (h : NM w p) : Calls Try.prog 23 #[.pointer p, .int .i64 b, .int .i64 c] w fun e w' => e = .returned (.int .i64 1) ∧ w' = w := by
  have kM := hid (h w (Old.refl w))
  clear h
  go_enter Try.func23, Try.ntmps23
  go_wp2_with fail
  refine kM.out.mono ?_
  rintro e w' ⟨rfl, e2⟩
  rw [e2]
  clear e2
  go_wp2_with fail
  (go_ret; exact ⟨rfl, rfl⟩)
set_option maxRecDepth 100000 in
theorem ndrop (p : Option Addr) (b : Int) (w : World) (h : NM w p) : Calls Try.prog 36 #[.pointer p, .int .i64 b] w fun e w' => e = .returned (.int .i64 1) ∧ w' = w := by
  have kM := hid (h w (Old.refl w))
  clear h
  go_enter Try.func36, Try.ntmps36
  go_wp2_with fail
  refine kM.out.mono ?_
  rintro e w' ⟨rfl, e2⟩
  rw [e2]
  clear e2
  go_wp2_with fail
  (go_ret; exact ⟨rfl, rfl⟩)
set_option maxRecDepth 100000 in
theorem nlen (p : Option Addr) (w : World) (h : NM w p) : Calls Try.prog 18 #[.pointer p] w fun e w' => e = .returned (.int .i64 0) ∧ w' = w := by
  have kM := hid (h w (Old.refl w))
  clear h
  go_enter Try.func18, Try.ntmps18
  go_wp2_with fail
  refine kM.out.mono ?_
  rintro e w' ⟨rfl, e2⟩
  rw [e2]
  clear e2
  go_wp2_with fail
  (go_ret; exact ⟨rfl, rfl⟩)
set_option maxRecDepth 100000 in
theorem ncopy (p : Option Addr) (w : World) (h : NM w p) : Calls Try.prog 40 #[.pointer p] w fun e w' => e = .returned (.pointer none) ∧ w' = w := by
  have kM := hid (h w (Old.refl w))
  clear h
  go_enter Try.func40, Try.ntmps40
  go_wp2_with fail
  refine kM.out.mono ?_
  rintro e w' ⟨rfl, e2⟩
  rw [e2]
  clear e2
  go_wp2_with fail
  (go_ret; exact ⟨rfl, rfl⟩)
set_option maxRecDepth 100000 in
theorem nof (p : Option Addr) (b : Int) (w : World) (h : NM w p) : Calls Try.prog 38 #[.pointer p, .int .i64 b] w fun e w' => e = .returned (.tuple #[.int .i64 0, .bool false]) ∧ w' = w := by
  have kM := hid (h w (Old.refl w))
  clear h
  go_enter Try.func38, Try.ntmps38
  go_wp2_with fail
  refine kM.out.mono ?_
  rintro e w' ⟨rfl, e2⟩
  rw [e2]
  clear e2
  go_wp2_with fail
  (exact bodyPost_ret (v := .tuple #[.int .i64 0, .bool false]) (by simp [results, Try.results38, go_sem]) rfl ⟨rfl, rfl⟩)

set_option maxRecDepth 100000 in
set_option maxHeartbeats 2000000 in
theorem nsell (p : Option Addr) (w : World) (h : NM w p) : Calls Try.prog 24 #[.pointer p] w fun e w' => e = .returned (.tuple #[soldV none, .int .i64 1]) ∧ Old w w' := by
  have hR := RS.new w
  have kM := hid (h.old hR.old _ (Old.refl _))
  clear h
  go_enter Try.func24, Try.ntmps24
  go_wp2_with fail
  generalize w.alloc (.cells #[.bool false, .int .i64 0, .int .i64 0, .int .i64 0] 26) = w1 at *
  obtain ⟨s, hs⟩ : ∃ s, w.heap.size = s := ⟨_, rfl⟩
  have ks := hid hs
  rw [hs]
  obtain ⟨r0, r1, r2, r3, rf⟩ := hR.res.none
  rw [hs] at r0 r1 r2 r3 rf
  have kR := hid hR
  clear hR hs
  refine kM.out.mono ?_
  rintro e w' ⟨rfl, e2⟩
  rw [e2]
  clear e2
  go_wp2_with fail
  exact bodyPost_ret (v := .tuple #[.agg #[.bool false, .int .i64 0, .int .i64 0, .int .i64 0], .int .i64 1]) (by simp [results, Try.results24, go_sem, r0, r1, r2, r3]) rfl ⟨rfl, kR.out.end ks.out _ _ _ _⟩

set_option maxRecDepth 100000 in
set_option maxHeartbeats 16000000 in
theorem nothing_any (p : Option Addr) (w : World) (h : NM w p) : Calls Try.prog 21 #[.pointer p] w fun e w' => e = .returned (.bool true) ∧ Old w w' := by
  have hfn : ∀ (p : Value) (w : World), (binOp BinOp.eql 61 (.func (.func 42) #[] #[p]) .nilFunc).run Try.prog w = .ok (.bool false) w := fun _ _ => by kernel_rfl
  have o2 : Old w ((w.alloc (.cells #[.bool false] 4)).alloc (.cells #[.pointer p] 44)) := ((Old.refl w).alloc _).alloc _
  obtain ⟨t1, t2⟩ := boxed_two w (.bool false) (.pointer p) 4 44
  have hz5 : Hid (((w.alloc (.cells #[.bool false] 4)).alloc (.cells #[.pointer p] 44)).heap.size = w.heap.size + 2) := by
    show _ = _
    rw [alloc_size, alloc_size]
  have kN := hid (h.old o2)
  have k1 := hid t1
  have k2 := hid t2
  have ko := hid o2
  have hsa := alloc_size w (.cells #[.bool false] 4)
  clear o2 t1 t2 h
  refine (callsIn_wide (n := 5)).1 ?_
  refine callsIn_of_wp_marks Try.func21 rfl trivial ?_ rfl
  simp only [Try.ntmps21, List.size_toArray, List.length_cons, List.length_nil, Nat.reduceAdd, Nat.reduceSub, Array.replicate_succ, Array.replicate_zero, List.push_toArray, List.append_toArray, List.nil_append, List.cons_append]
  refine wpIn_wide.2 ?_
  go_wp2_with fail
  refine (all_any p _).mono ?_
  rintro e w' ⟨rfl, e2⟩
  rw [e2, hsa]
  clear e2 hsa
  go_wp2_with fail
  generalize (w.alloc (.cells #[.bool false] 4)).alloc (.cells #[.pointer p] 44) = W5 at *
  obtain ⟨s, hs⟩ : ∃ s, w.heap.size = s := ⟨_, rfl⟩
  have ks := hid hs
  rw [hs] at k1 k2 hz5 ⊢
  clear hs
  have h5z := hz5.out
  refine range_joinP (n := 5) (by omega) (gf := 42) (lb := #[.pointer (some ⟨s + 1, 0, none⟩)]) rfl (enters_of Try.func42 (by kernel_rfl) rfl)
    (none_stops 4 (by omega) (s + 1) p (fun _ => False) W5 k2.out.cell (fun W o => kN.out W o))
    (fun h k => h.trans k) (fun W l o o' _ h1 h2 => KeptC.put W l o o' h1 h2) (fun _ => rfl) 0
    (fun p Y => Old W5 Y) (fun _ _ => False) (fun _ Y => Old W5 Y)
    (fun p A B h hf => Frm.trans h hf (fun i hi e => by omega)) (fun p A B h hf => h.elim) (Old.refl _)
    (fun x t => t.setIfInBounds 13 (.agg #[.int .i64 x.1, .int .i64 x.2])) ?assign ?body (fun q W _ h => h) (fun q W _ h => h.elim) ?hQ ?done
  case assign =>
    intro l' x W K hK
    gi_wp2
    simp [encS] at hK ⊢
    exact hK
  case body =>
    intro l' q x Y h1 h2
    exact h2.elim
  case hQ =>
    intro b W h
    exact inBlock_both (Or.inr rfl) h
  case done =>
    rintro D q Y hD hI hK
    refine inBlock_both (Or.inl rfl) ?_
    dsimp only
    have kY := hid hI
    have kK := hid hK
    have kN2 := hid (kN.out.old hI)
    have kO := hid (nof p 0 Y kN2.out)
    have kS := hid (nsell p Y kN2.out)
    clear hI hK
    go_wp2_with fail
    refine kO.out.mono ?_
    rintro e w' ⟨rfl, e2⟩
    rw [e2]
    clear e2 kO
    go_wp2_with fail
    refine kS.out.mono ?_
    rintro e Y2 ⟨rfl, oY2⟩
    dsimp only [soldV]
    have kY2 := hid (kY.out.trans oY2)
    have oA : Old Y (Y2.alloc (.cells #[.bool false, .int .i64 0, .int .i64 0, .int .i64 0] 26)) := oY2.alloc _
    have hS : SB (Y2.alloc (.cells #[.bool false, .int .i64 0, .int .i64 0, .int .i64 0] 26)) Y2.heap.size none := heap_new Y2 _
    obtain ⟨b0, b1, b2, b3, -⟩ := hS.none
    have hNa := kN2.out.old oA
    have q1 := hid (nbid p (-1) (-1) _ hNa)
    have q2 := hid (ndrop p 0 _ hNa)
    have q3 := hid (nlen p _ hNa)
    have q4 := hid (ncopy p _ hNa)
    have q5 := hid num_any
    have hr := boxed_olds (boxed_olds k1.out kY.out) oA
    have kr := hid hr
    have rc := hr.cell
    have rf := hr.frozen
    have kA := hid (kY.out.trans oA)
    have hKD := hid ((oA.block D (Array.getElem?_eq_some_iff.1 kK.out).1 (fun h => h)).trans kK.out)
    have hDl := (Array.getElem?_eq_some_iff.1 hKD.out).1
    clear oY2 oA hS hNa hr kS kN2 kN
    go_upto_region 8 with fail
    generalize Y2.alloc (.cells #[.bool false, .int .i64 0, .int .i64 0, .int .i64 0] 26) = Y3 at *
    generalize Y2.heap.size = p6 at *
    go_wp2_with (first | (go_at_call 12; refine (q5.out _ _).mono ?_; rintro e w' ⟨rfl, e2⟩; rw [e2]; clear e2) | (go_at_call 23; refine q1.out.mono ?_; rintro e w' ⟨rfl, e2⟩; rw [e2]; clear e2) | (go_at_call 36; refine q2.out.mono ?_; rintro e w' ⟨rfl, e2⟩; rw [e2]; clear e2) | (go_at_call 18; refine q3.out.mono ?_; rintro e w' ⟨rfl, e2⟩; rw [e2]; clear e2) | (go_at_call 40; refine q4.out.mono ?_; rintro e w' ⟨rfl, e2⟩; rw [e2]; clear e2))
    have hfx := frm_set Y3 s 0 (.bool true)
    refine leave_marks [D] _ ⟨by simp, fun r hr => ?_⟩ (fun W' hW' => ?_)
    · obtain rfl : r = D := by simpa using hr
      rw [hfx.block r hDl (by omega)]
      exact hKD.out
    · have hge : ∀ r ∈ [D], s + 2 ≤ r := fun r hr => by
        obtain rfl : r = D := by simpa using hr
        omega
      have hc0 := (boxed_frm (Boxed.set (.bool true) kr.out) hW' (fun h => by have := hge _ h; omega)).cell
      refine ⟨.bool true, ?_, rfl, ?_⟩
      · simp [results, Try.f21, go_sem, hc0]
      · exact Frm.trans (Frm.trans (ko.out.trans kA.out) hfx (fun i hi e => by have := ks.out; omega)) hW' (fun i hi e => by have := ks.out; have := hge _ e; omega)
end Go.Proofs.Ytfmeobelpideoaa
