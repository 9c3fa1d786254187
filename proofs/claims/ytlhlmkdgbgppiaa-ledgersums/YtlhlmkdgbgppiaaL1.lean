/- A ledger is made; an account is opened, or not. -/
import Derived.Test.YtlhlmkdgbgppiaaLI
namespace Go.Proofs.Ytlhlmkdgbgppiaa
open Go.RowKit Go.Shelf Go.Maps

def Lx.fresh (s : Nat) : Lx := ⟨s + 5, s + 4, s + 2, s + 1, s, s + 3, .slice none 0 0, .slice none 0 0, [], [], []⟩

theorem ok_fresh (s : Nat) : OkL (Lx.fresh s) := ⟨rfl, ⟨by simp [Lx.fresh], by simp [Lx.fresh], rfl⟩, by simp [Lx.fresh], by simp [Lx.fresh], by simp [Lx.fresh]⟩

set_option maxRecDepth 100000 in
set_option maxHeartbeats 1000000 in
theorem lnew_any (w : World) : Calls Try.prog 6 #[] w fun e w' => e = .returned (Lx.fresh w.heap.size).ptr ∧ Old w w' ∧ Ldg w' (Lx.fresh w.heap.size) ∧ w'.heap.size = w.heap.size + 6 := by
  have kN := hid (new_good 65536 w ⟨by omega, by omega⟩)
  obtain ⟨s, hs⟩ : ∃ s, w.heap.size = s := ⟨_, rfl⟩
  rw [hs] at kN ⊢
  go_enter Try.func6, Try.ntmps6
  go_wp2_with (go_at_call 20; refine kN.out.mono ?_)
  rintro e w1 ⟨rfl, o1, h1, z1⟩
  have hm := run_makeMap (P := Try.prog) 64 w1
  have k1 := hid h1
  have ko := hid o1
  have kz := hid z1
  clear kN h1 o1 z1
  go_wp2_with fail
  have z1 := kz.out
  obtain ⟨oA, hA⟩ : ∃ oA, Obj.map #[] 0 = oA := ⟨_, rfl⟩
  obtain ⟨oB, hB⟩ : ∃ oB, Obj.cells #[.pointer (some ⟨s + 2, 0, none⟩), .map (some w1.heap.size), .slice none 0 0] 67 = oB := ⟨_, rfl⟩
  obtain ⟨oC, hC⟩ : ∃ oC, Obj.cells #[.pointer (some ⟨w1.heap.size + 1, 0, none⟩)] 58 = oC := ⟨_, rfl⟩
  have km := AM.made w1
  rw [hA] at km ⊢
  rw [hB] at ⊢
  rw [hC] at ⊢
  have o2 : Old w1 (w1.alloc oA) := (Old.refl _).alloc _
  have z2 := alloc_size w1 oA
  have o3 : Old (w1.alloc oA) ((w1.alloc oA).alloc oB) := (Old.refl _).alloc _
  have z3 := alloc_size (w1.alloc oA) oB
  have n3 := heap_new (w1.alloc oA) oB
  have o4 : Old ((w1.alloc oA).alloc oB) (((w1.alloc oA).alloc oB).alloc oC) := (Old.refl _).alloc _
  have z4 := alloc_size ((w1.alloc oA).alloc oB) oC
  have n4 := heap_new ((w1.alloc oA).alloc oB) oC
  generalize ((w1.alloc oA).alloc oB).alloc oC = w4 at *
  generalize (w1.alloc oA).alloc oB = w3 at *
  generalize w1.alloc oA = w2 at *
  rw [z3] at z4 n4
  rw [z2] at z3 z4 n3 n4
  have n3' := (o4.block _ (by omega) (fun h => h)).trans n3
  refine bodyPost_ret (v := .pointer (some ⟨w1.heap.size + 1 + 1, 0, none⟩)) ?_ rfl ⟨?_, (((ko.out).trans o2).trans o3).trans o4, ?_, by omega⟩
  · simp [results, Try.f6, go_sem]
  · simp only [Lx.ptr, Lx.fresh]
    rw [show w1.heap.size + 1 + 1 = s + 5 from by omega]
  · have e1 : s + 3 = w1.heap.size := by omega
    have e2 : s + 4 = w1.heap.size + 1 := by omega
    have e3 : s + 5 = w1.heap.size + 1 + 1 := by omega
    subst hB
    subst hC
    refine ⟨?_, ?_, ?_, ?_, ?_, ?_, fun _ => rfl⟩
    · show w4.heap[s + 5]? = some (.cells #[.pointer (some ⟨s + 4, 0, none⟩)] 58 (0, 0))
      rw [e3, e2]; exact n4
    · show w4.heap[s + 4]? = some (.cells #[.pointer (some ⟨s + 2, 0, none⟩), .map (some (s + 3)), .slice none 0 0] 67 (0, 0))
      rw [e2, e1]; exact n3'
    · exact ((k1.out.old o2).old o3).old o4
    · show AM w4 (s + 3) 0 (lkA [])
      rw [e1]
      exact ((km.kept o3 (fun h => h)).kept o4 (fun h => h)).ext (by funext x; simp [lkA])
    · exact ⟨[], rfl, ⟨rfl, Or.inl ⟨rfl, rfl⟩⟩, fun i hi => absurd hi (by simp [Lx.fresh])⟩
    · simp [Lx.fresh]

/-- Why an account may not be opened. -/
def opnZ (L : List (List UInt8)) (x : List UInt8) (b : Int) : Int := if b < -70368744177664 ∨ 0 < b then 2 else refZ L 65536 x

set_option maxRecDepth 100000 in
set_option maxHeartbeats 1000000 in
theorem open_bad (x : Lx) (n : List UInt8) (b : Int) (w : World) (h : Ldg w x) (hk : OkL x) (hr : opnZ x.L n b ≠ 0) :
    Calls Try.prog 10 #[x.ptr, .string ⟨n.toArray⟩, .int .i64 b] w fun e w' => e = .returned (.tuple #[.int .i64 0, .int .i64 (opnZ x.L n b)]) ∧ Old w w' := by
  have kM := hid (made_some x.lb x.ib w h.c0)
  have c0 := h.c0
  have i0 := h.i0
  have hl : x.L.length ≤ 1048576 := by have := hk.len; have := hk.oka.len; omega
  unfold opnZ at *
  unfold Lx.ptr
  by_cases h1 : b < -70368744177664
  · rw [if_pos (Or.inl h1)]
    clear h hk hr
    go_enter Try.func10, Try.ntmps10
    go_wp2_with (go_at_call 40; refine kM.out.mono ?_; rintro e w' ⟨rfl, hw⟩; rw [hw]; clear hw w')
    go_ret2
    exact ⟨rfl, Old.refl _⟩
  · by_cases h2 : 0 < b
    · rw [if_pos (Or.inr h2)]
      clear h hk hr
      go_enter Try.func10, Try.ntmps10
      go_wp2_with (go_at_call 40; refine kM.out.mono ?_; rintro e w' ⟨rfl, hw⟩; rw [hw]; clear hw w')
      go_ret2
      exact ⟨rfl, Old.refl _⟩
    · rw [if_neg (by omega)] at *
      have kA := hid (add_bad x.nb x.tb x.mb x.v 65536 x.L n w h.nms hl hr)
      have hq : (refZ x.L 65536 n != 0) = true := by simpa using hr
      clear h hk hr
      generalize refZ x.L 65536 n = r at *
      go_enter Try.func10, Try.ntmps10
      go_wp2_with (go_at_call 40; refine kM.out.mono ?_; rintro e w' ⟨rfl, hw⟩; rw [hw]; clear hw w')
      refine kA.out.mono ?_
      rintro e w1 ⟨rfl, o1⟩
      go_wp2_with fail
      go_ret2
      exact ⟨rfl, o1⟩

set_option maxRecDepth 100000 in
set_option maxHeartbeats 1000000 in
theorem open_good (x : Lx) (n : List UInt8) (b : Int) (w : World) (h : Ldg w x) (hk : OkL x) (hr : opnZ x.L n b = 0) :
    Calls Try.prog 10 #[x.ptr, .string ⟨n.toArray⟩, .int .i64 b] w fun e w' => e = .returned (.tuple #[.int .i64 (x.A.length : Int), .int .i64 0]) ∧ ∃ v', Ldg w' { x with v := v', L := x.L ++ [n], A := x.A ++ [(b, 0)] } ∧ Frm x.own w w' ∧ ∀ k, v'.ownBlock = some k → x.v.ownBlock = some k ∨ w.heap.size ≤ k := by
  have kM := hid (made_some x.lb x.ib w h.c0)
  have c0 := h.c0
  have i0 := h.i0
  have hl : x.L.length ≤ 1048576 := by have := hk.len; have := hk.oka.len; omega
  have hl2 := hk.oka.len
  unfold opnZ at hr
  split at hr
  · cases hr
  rename_i hb
  have hb1 : ¬ b < -70368744177664 := fun h => hb (Or.inl h)
  have hb2 : ¬ 0 < b := fun h => hb (Or.inr h)
  have kA := hid (add_good x.nb x.tb x.mb x.v 65536 x.L n w h.nms hl hr)
  rw [hk.len] at kA
  have kh := hid h
  have ne := hid h.ne
  unfold Lx.ptr
  clear h hk hr hb
  go_enter Try.func10, Try.ntmps10
  go_wp2_with (go_at_call 40; refine kM.out.mono ?_; rintro e w' ⟨rfl, hw⟩; rw [hw]; clear hw w')
  refine kA.out.mono ?_
  rintro e w1 ⟨rfl, v', hN, hf, hv⟩
  obtain ⟨e1, e2, e3, e4, e5, e6, e7, e8, e9, e10, e11, e12, e13, e14, e15, e16, e17, e18, e19, e20, e21, e22⟩ := ne.out
  have d0 : w1.cell? ⟨x.lb, 0, none⟩ = some (.pointer (some ⟨x.ib, 0, none⟩)) := frm_cell hf c0 (fun h => h.elim e3 (fun h => h.elim e4 e6))
  have d1 : w1.cell? ⟨x.ib, 1, none⟩ = some (.map (some x.ab)) := frm_cell hf kh.out.i1 (fun h => h.elim e11 (fun h => h.elim e12 e14))
  have hA := kh.out.am.kept hf (fun h => h.elim (fun h => e16 h.symm) (fun h => h.elim (fun h => e22 h.symm) e19))
  obtain ⟨w2, hput, hA2, f2⟩ := hA.put (x := (x.A.length : Int)) (by unfold i64ok; omega) (b, 0) (by have : maxLen = 9223372036854775807 := rfl; omega)
  have kN := hid hN
  have kf := hid hf
  have kv := hid hv
  have kA2 := hid hA2
  have kf2 := hid f2
  unfold acV at hput
  clear hN hf hv hA hA2 f2
  go_wp2_with fail
  go_ret2
  have f2 := kf2.out
  have hf := kf.out
  have hF : Frm x.own w w2 := Frm.trans (Frm.mono hf (fun i _ h => h.elim (fun h => Or.inr (Or.inl h)) (fun h => h.elim (fun h => Or.inr (Or.inr (Or.inl h))) (fun h => Or.inr (Or.inr (Or.inr (Or.inr (Or.inl h)))))))) f2 (fun i _ h => Or.inr (Or.inr (Or.inr (Or.inl h))))
  have hn : lkA x.A (x.A.length : Int) = none := by simp [lkA]
  have hab := kh.out.am.lt
  refine ⟨rfl, v', ⟨?_, ?_, ?_, ?_, ?_, e22, kh.out.pn⟩, hF, kv.out⟩
  · show w2.heap[x.lb]? = _
    rw [f2.block _ (Nat.lt_of_lt_of_le (blk_lt kh.out.hd) hf.size) e5, hf.block _ (blk_lt kh.out.hd) (fun h => h.elim e3 (fun h => h.elim e4 e6))]
    exact kh.out.hd
  · show w2.heap[x.ib]? = _
    rw [f2.block _ (Nat.lt_of_lt_of_le (blk_lt kh.out.ins) hf.size) e13, hf.block _ (blk_lt kh.out.ins) (fun h => h.elim e11 (fun h => h.elim e12 e14))]
    exact kh.out.ins
  · refine kN.out.frm f2 e9 e16 e22 (fun k hk h => ?_)
    subst h
    rcases kv.out x.ab hk with h | h
    · exact e19 h
    · omega
  · have hz := kA2.out
    unfold moreN at hz
    rw [hn] at hz
    have hz := hz.ext (lkA_snoc (b, 0))
    show AM w2 x.ab (x.A ++ [(b, 0)]).length (lkA (x.A ++ [(b, 0)]))
    rw [List.length_append]
    exact hz
  · show RowP w2 x.pv x.P
    have hG : Frm (fun k => k = x.tb ∨ k = x.mb ∨ x.v.ownBlock = some k ∨ k = x.ab) w w2 := Frm.trans (Frm.mono hf (fun i _ h => h.elim Or.inl (fun h => h.elim (fun h => Or.inr (Or.inl h)) (fun h => Or.inr (Or.inr (Or.inl h)))))) f2 (fun i _ h => Or.inr (Or.inr (Or.inr h)))
    refine kh.out.row.frm hG (fun k hk h => ?_) (fun k arr z e h => ?_)
    · rcases h with h | h | h | h
      · exact e17 (h ▸ hk)
      · exact e18 (h ▸ hk)
      · exact e21 k h hk
      · exact e20 (h ▸ hk)
    · refine kh.out.notP k arr z e ?_
      rcases h with h | h | h | h
      · exact Or.inr (Or.inl h)
      · exact Or.inr (Or.inr (Or.inl h))
      · exact Or.inr (Or.inr (Or.inr (Or.inr (Or.inl h))))
      · exact Or.inr (Or.inr (Or.inr (Or.inl h)))
end Go.Proofs.Ytlhlmkdgbgppiaa
