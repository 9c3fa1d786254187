/- LadderStays: where it stands. -/
import Derived.Test.YtkhenigdppjlhaaA3
import Derived.Test.YtkhenigdppjlhaaRP2
namespace Go.Proofs.Ytkhenigdppjlhaa
open Go.RowKit Go.Lib Go.Shelf
attribute [local go_sem] Oper.semAt_some

/-- Where LadderStays stands behind some rounds. -/
structure SI (w : World) (s br bn : Nat) (l : Lt) (L : List Bd) (p : List (Rs × Int)) (Y : World) : Prop where
  at' : ∃ k, k ≤ L.length ∧ p = evs l L k ∧ RB Y br (rK l L k) ∧ Boxed Y bn 3 (.int .i64 (k : Int))
  lot : LotC Y s l
  res : Boxed Y (s + 1) 4 (.bool false)
  old : Old w Y

theorem SI.frm {w : World} {s br bn N : Nat} {l : Lt} {L : List Bd} {p : List (Rs × Int)} {X Y : World} (h : SI w s br bn l L p X) (hf : Frm (fun k => N ≤ k) X Y) (h1 : s + 1 < N) (h2 : br < N) (h3 : bn < N) (h4 : w.heap.size ≤ N) : SI w s br bn l L p Y := by
  obtain ⟨k, hk, hp, hr, hb⟩ := h.at'
  exact ⟨⟨k, hk, hp, hr.frm hf (by omega), boxed_frm hb hf (by omega)⟩, frm_lot h.lot hf (by omega), boxed_frm h.res hf (by omega), Frm.trans h.old hf (fun i hi e => by omega)⟩

theorem pre_next {l : Lt} {L : List Bd} {k k' : Nat} {x : Rs × Int} (h : evs l L k ++ [x] = evs l L k') : k' = k + 1 ∧ x = evK l L k := by
  have hlen := congrArg List.length h
  rw [List.length_append, evs_length, evs_length] at hlen
  simp at hlen
  subst hlen
  rw [evs_succ] at h
  have := List.append_inj_right h rfl
  simpa using this

theorem stays_post {w Y w6 : World} {s br bn N k : Nat} {l : Lt} {L : List Bd} {r x : Rs} (h : SI w s br bn l L (evs l L k) Y) (hk : k + 1 ≤ L.length) (hR : RB Y br r) (hb : Boxed Y bn 3 (.int .i64 (k : Int))) (o : Old Y w6) (hx : rK l L (k + 1) = x) (h1 : s + 1 < br) (h2 : br < bn) (h3 : bn < N) (h4 : w.heap.size = s) :
    KeepsFrom N Y (((((w6.setCell ⟨br, 0, none⟩ (.int .i64 x.leader)).setCell ⟨br, 1, none⟩ (.int .i64 x.limit)).setCell ⟨br, 2, none⟩ (.int .i64 x.price)).setCell ⟨br, 3, none⟩ (.int .i64 x.closes)).setCell ⟨bn, 0, none⟩ (.int .i64 ((k : Int) + 1))) ∧
    KeptC (fun k => k = br ∨ k = bn) Y (((((w6.setCell ⟨br, 0, none⟩ (.int .i64 x.leader)).setCell ⟨br, 1, none⟩ (.int .i64 x.limit)).setCell ⟨br, 2, none⟩ (.int .i64 x.price)).setCell ⟨br, 3, none⟩ (.int .i64 x.closes)).setCell ⟨bn, 0, none⟩ (.int .i64 ((k : Int) + 1))) ∧
    SI w s br bn l L (evs l L (k + 1)) (((((w6.setCell ⟨br, 0, none⟩ (.int .i64 x.leader)).setCell ⟨br, 1, none⟩ (.int .i64 x.limit)).setCell ⟨br, 2, none⟩ (.int .i64 x.price)).setCell ⟨br, 3, none⟩ (.int .i64 x.closes)).setCell ⟨bn, 0, none⟩ (.int .i64 ((k : Int) + 1))) := by
  have hR6 := (hR.frm o (fun h => h)).set x
  have hf1 := four_frm w6 br (.int .i64 x.leader) (.int .i64 x.limit) (.int .i64 x.price) (.int .i64 x.closes)
  have hb6 := boxed_frm (boxed_olds hb o) hf1 (by omega)
  generalize (((w6.setCell ⟨br, 0, none⟩ (.int .i64 x.leader)).setCell ⟨br, 1, none⟩ (.int .i64 x.limit)).setCell ⟨br, 2, none⟩ (.int .i64 x.price)).setCell ⟨br, 3, none⟩ (.int .i64 x.closes) = w7 at *
  have hf2 := frm_set w7 bn 0 (.int .i64 ((k : Int) + 1))
  have hf : Frm (fun k => k = br ∨ k = bn) Y (w7.setCell ⟨bn, 0, none⟩ (.int .i64 ((k : Int) + 1))) := Frm.trans (Frm.trans (Frm.mono o (fun _ _ h => h.elim)) (Frm.mono hf1 (fun _ _ h => Or.inl h)) (fun _ _ h => h)) (Frm.mono hf2 (fun _ _ h => Or.inr h)) (fun _ _ h => h)
  refine ⟨⟨hf.size, fun i ob hi hk2 _ => by rw [hf.block i (Array.getElem?_eq_some_iff.1 hk2).1 (by omega)]; exact hk2⟩, KeptC.of_frm hf, ⟨⟨k + 1, hk, rfl, ?_, Boxed.set _ hb6⟩, frm_lot h.lot hf (by omega), boxed_frm h.res hf (by omega), Frm.trans h.old hf (fun i hi e => by omega)⟩⟩
  rw [hx]
  exact hR6.frm hf2 (by omega)

end Go.Proofs.Ytkhenigdppjlhaa
