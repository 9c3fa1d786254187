/- Dues put in order: the sort itself. -/
import Derived.Test.YtbaibikpdaphoaaS1
namespace Go.Proofs.Ytbaibikpdaphoaa
open Go.RowKit Go.Lib Go.Maps Go.Sort

theorem sortWorldK_frm {α : Type} [Inhabited α] (enc : α → List Value) (c : Nat) (w : World) (blk m : Nat) (d : Array α) (os : Array Obj) : Frm (fun k => k = blk) w (sortWorldK enc c w blk 0 m d os) := by
  refine ⟨rfl, rfl, rfl, ?_, ?_⟩
  · simp [sortWorldK, putRowK, grow, putRow, mapBlock, Sort.ahead]
  · intro k hk hne
    have hne' : ¬ blk = k := fun e => hne e.symm
    show (((w.heap.modify blk (onCells (putCells id 0 (flatK enc c d)))) ++ os)[k]?) = _
    rw [Array.getElem?_append_left (by simpa using hk), Array.getElem?_modify, if_neg hne']

theorem sorted_is {L R : List Due} {d' : Array Due} (hnd : R.Nodup) (hp : PermIn 0 L.toArray.size L.toArray d') (hs : SortedIn (ltOf cmpD) 0 L.toArray.size d') (hR : Srt R) (hq : L.Perm R) : d'.toList = R := by
  obtain ⟨h1, _, h3⟩ := hp
  have e1 : d'.extract 0 L.toArray.size = d' := by apply Array.extract_eq_self_of_le; omega
  have e2 : L.toArray.extract 0 L.toArray.size = L.toArray := by apply Array.extract_eq_self_of_le; omega
  rw [e1, e2] at h3
  have hperm : d'.toList.Perm R := h3.trans hq
  refine srt_uniq ?_ hR hperm
  unfold Srt
  rw [List.pairwise_iff_getElem]
  intro i j hi hj hij
  have hi' : i < d'.size := by simpa using hi
  have hj' : j < d'.size := by simpa using hj
  have h4 := hs i j (Nat.zero_le _) hij (by omega)
  rw [getElem!_pos _ i hi', getElem!_pos _ j hj', cmpD_ltOf_false] at h4
  simp only [Array.getElem_toList]
  have hne : d'[i] ≠ d'[j] := by
    intro e
    have hn := hperm.nodup_iff.2 hnd
    have := List.pairwise_iff_getElem.1 hn i j hi hj hij
    exact this (by simpa using e)
  have hne2 : ¬ (d'[i].1 = d'[j].1 ∧ d'[i].2 = d'[j].2) := fun h => hne (Prod.ext h.1 h.2)
  unfold dlt at *
  omega

theorem srt_nodup {R : List Due} (h : Srt R) : R.Nodup := by
  refine List.Pairwise.imp ?_ h
  intro a b hab e
  subst e
  exact dlt_irrefl _ hab

theorem sort_dues {w : World} {blk cap : Nat} {L R : List Due} (scap : Nat) (h : Row w blk cap L) (hR : Srt R) (hq : L.Perm R) (hsz : L.length < 4611686018427387904) :
    Calls Try.prog 37 #[.slice (some ⟨blk, 0, none⟩) L.length scap, .func (.func 38) #[] #[]] w fun e w' =>
      e = .returned (.tuple #[]) ∧ HoldsK encD 2 w' blk 0 R.toArray ∧ DueC w' (some ⟨blk, 0, none⟩) R ∧ Frm (fun k => k = blk) w w' := by
  have eg : ∀ args w, (callFunc 38 args).run Try.prog w = .ok (.enter 38 args) w := enters_of Try.func38 (by kernel_rfl) rfl
  have hcmp : CmpLays Try.prog 38 #[] encD 2 cmpD blk 0 L.toArray.size w := by
    intro m os dk hdk x y
    exact order_any x y _
  have hH := holds_of_row h
  have hk := AnyQ.slices_SortFunc Try.sortDue 2 (by intro w; kernel_rfl) (by intro w; kernel_rfl) encD (fun _ => rfl) (by intro x v hv; simp only [encD, List.mem_cons, List.not_mem_nil, or_false] at hv; rcases hv with rfl | rfl <;> rfl) cmpD cmpD_swo 38 #[] blk 0 scap L.toArray w eg hcmp hH h.lt (by simpa using hsz)
  refine Calls.mono hk ?_
  rintro e w' ⟨rfl, d', n, os, hp, hs, rfl⟩
  have hd := sorted_is (srt_nodup hR) hp hs hR hq
  have hH' := holdsK_sortWorldK encD 2 w blk 0 n L.toArray d' os h.lt hH hp.1
  have he : d' = R.toArray := by rw [← hd]
  refine ⟨rfl, ?_, ?_, sortWorldK_frm _ _ _ _ _ _ _⟩
  · rw [← he]; exact hH'
  · rw [← hd]; exact dues_of_holds hH'
end Go.Proofs.Ytbaibikpdaphoaa
