/- Offers put in order: the library's sort at this program. -/
import Derived.Test.YtnambpbhkehijaaDoorH3
import Derived.Test.YtnambpbhkehijaaDoorShelf
import Derived.Shelf.SlSortCmp.WholeK
namespace Go.Proofs.YtnambpbhkehijaaDoor
open Go.RowKit Go.Lib Go.Maps Go.Sort

theorem olt_irrefl (x : Off) : ¬ olt x x := by unfold olt; omega
theorem olt_trans {x y z : Off} (h : olt x y) (k : olt y z) : olt x z := by unfold olt at *; omega
/-- In order. -/
def SrtO (R : List Off) : Prop := R.Pairwise (fun a b => ¬ olt b a)

theorem srtO_uniq : ∀ {R R' : List Off}, SrtO R → SrtO R' → R.Perm R' → R = R'
  | [], R', _, _, p => (List.Perm.nil_eq p)
  | x :: R, [], _, _, p => absurd p.symm (by intro h; exact absurd (List.Perm.nil_eq h) (by simp))
  | x :: R, y :: R', h, h', p => by
    have hx := List.pairwise_cons.1 h
    have hy := List.pairwise_cons.1 h'
    have e : x = y := by
      have m1 : x ∈ y :: R' := p.mem_iff.1 (List.mem_cons_self ..)
      have m2 : y ∈ x :: R := p.mem_iff.2 (List.mem_cons_self ..)
      rcases List.mem_cons.1 m1 with e | m1
      · exact e
      · rcases List.mem_cons.1 m2 with e | m2
        · exact e.symm
        · have h1 := hx.1 y m2
          have h2 := hy.1 x m1
          unfold olt at h1 h2
          exact Prod.ext (by omega) (by omega)
    subst e
    rw [srtO_uniq hx.2 hy.2 ((List.perm_cons x).1 p)]

/-- Laid in order. -/
def insO (d : Off) : List Off → List Off
  | [] => [d]
  | x :: l => if cmpO x d < 0 then x :: insO d l else d :: x :: l
def srtL : List Off → List Off
  | [] => []
  | x :: l => insO x (srtL l)

theorem insO_perm (d : Off) : ∀ l, (insO d l).Perm (d :: l)
  | [] => List.Perm.refl _
  | x :: l => by
    unfold insO
    split
    · exact ((insO_perm d l).cons x).trans (List.Perm.swap d x l)
    · exact List.Perm.refl _
theorem insO_srt {d : Off} : ∀ {l : List Off}, SrtO l → SrtO (insO d l)
  | [], _ => by simp [SrtO, insO]
  | x :: l, h => by
    have hx := List.pairwise_cons.1 h
    unfold insO
    split
    · rename_i hlt
      rw [cmpO_lt] at hlt
      refine List.pairwise_cons.2 ⟨fun y hy => ?_, insO_srt hx.2⟩
      rcases List.mem_cons.1 ((insO_perm d l).mem_iff.1 hy) with rfl | hy
      · exact fun k => olt_irrefl _ (olt_trans hlt k)
      · exact hx.1 y hy
    · rename_i hlt
      rw [cmpO_lt] at hlt
      refine List.pairwise_cons.2 ⟨fun y hy => ?_, h⟩
      rcases List.mem_cons.1 hy with rfl | hy
      · exact hlt
      · have := hx.1 y hy
        unfold olt at *
        omega
theorem srtL_perm : ∀ l, (srtL l).Perm l
  | [] => List.Perm.refl _
  | x :: l => (insO_perm x _).trans ((srtL_perm l).cons x)
theorem srtL_srt : ∀ l, SrtO (srtL l)
  | [] => List.Pairwise.nil
  | _ :: l => insO_srt (srtL_srt l)
theorem srtL_len (l : List Off) : (srtL l).length = l.length := (srtL_perm l).length_eq

/-- An offer's cells. -/
def encO (d : Off) : List Value := [.int .u32 (d.1 : Int), .int .i64 d.2]

theorem cmpO_ltOf (x y : Off) : ltOf cmpO x y = true ↔ olt x y := by
  unfold ltOf
  rw [decide_eq_true_eq]
  exact cmpO_lt
theorem cmpO_ltOf_false (x y : Off) : ltOf cmpO x y = false ↔ ¬ olt x y := by rw [← Bool.not_eq_true, cmpO_ltOf]

theorem cmpO_swo : SWO (ltOf cmpO) where
  irrefl x := by rw [cmpO_ltOf_false]; exact olt_irrefl x
  trans x y z h1 h2 := by rw [cmpO_ltOf] at *; exact olt_trans h1 h2
  ntrans x y z h1 h2 := by rw [cmpO_ltOf_false] at *; unfold olt at *; omega

theorem holds_of_own {w : World} {b : Nat} {L : List Off} (h : OwnO w b L) : HoldsK encO 2 w b 0 L.toArray := by
  intro j hj
  have hj2 : j < L.length * 2 := by simpa [flatK] using hj
  have hi : j / 2 < L.length := by omega
  obtain ⟨c0, c1⟩ := h.cell (j / 2) hi
  have hf : (flatK encO 2 L.toArray)[j]! = (encO L[j / 2])[j % 2]! := by
    rw [getElem!_pos _ j hj]
    simp only [flatK, Array.getElem_map, Array.getElem_range]
    rw [getElem!_pos L.toArray (j / 2) (by simpa using hi)]
    simp
  refine ⟨?_, h.fz _⟩
  rw [hf, Nat.zero_add]
  rcases Nat.mod_two_eq_zero_or_one j with e | e
  · rw [e]
    rw [show j / 2 * 2 = j by omega] at c0
    exact c0
  · rw [e]
    rw [show j / 2 * 2 + 1 = j by omega] at c1
    exact c1

theorem sortWorldK_frm {α : Type} [Inhabited α] (enc : α → List Value) (c : Nat) (w : World) (blk m : Nat) (d : Array α) (os : Array Obj) : Frm (fun k => k = blk) w (sortWorldK enc c w blk 0 m d os) := by
  refine ⟨rfl, rfl, rfl, ?_, ?_⟩
  · simp [sortWorldK, putRowK, grow, putRow, mapBlock, Sort.ahead]
  · intro k hk hne
    have hne' : ¬ blk = k := fun e => hne e.symm
    show (((w.heap.modify blk (onCells (putCells id 0 (flatK enc c d)))) ++ os)[k]?) = _
    rw [Array.getElem?_append_left (by simpa using hk), Array.getElem?_modify, if_neg hne']

theorem sortWorldK_fz {α : Type} [Inhabited α] (enc : α → List Value) (c : Nat) (w : World) (blk m : Nat) (d : Array α) (os : Array Obj) (hb : blk < w.heap.size) (j : Nat) : (sortWorldK enc c w blk 0 m d os).frozen? ⟨blk, j, none⟩ = w.frozen? ⟨blk, j, none⟩ := by
  have e : (sortWorldK enc c w blk 0 m d os).heap[blk]? = (w.heap[blk]?).map (onCells (putCells id 0 (flatK enc c d))) := by
    show (((w.heap.modify blk (onCells (putCells id 0 (flatK enc c d)))) ++ os)[blk]?) = _
    rw [Array.getElem?_append_left (by simpa using hb), Array.getElem?_modify, if_pos rfl]
  simp only [World.frozen?, e]
  rcases h : w.heap[blk]? with _ | o
  · rfl
  · cases o <;> simp [onCells]

theorem own_of_holds {w : World} {b : Nat} {d : Array Off} (h : HoldsK encO 2 w b 0 d) (hf : ∀ j, w.frozen? ⟨b, j, none⟩ = false) (hb : b < w.heap.size) : OwnO w b d.toList := by
  refine ⟨fun i hi => ?_, hf, hb⟩
  have hi' : i < d.size := by simpa using hi
  have e : d[i]! = d.toList[i] := by rw [getElem!_pos d i hi']; simp
  have h0 := (h.cell (i := i) (c := 0) hi' (by omega)).1
  have h1 := (h.cell (i := i) (c := 1) hi' (by omega)).1
  rw [e] at h0 h1
  refine ⟨?_, ?_⟩
  · rw [show i * 2 = 0 + i * 2 + 0 by omega]; exact h0
  · rw [show i * 2 + 1 = 0 + i * 2 + 1 by omega]; exact h1

theorem sorted_is {L : List Off} {d' : Array Off} (hp : PermIn 0 L.toArray.size L.toArray d') (hs : SortedIn (ltOf cmpO) 0 L.toArray.size d') : d'.toList = srtL L := by
  obtain ⟨h1, _, h3⟩ := hp
  have e1 : d'.extract 0 L.toArray.size = d' := by apply Array.extract_eq_self_of_le; omega
  have e2 : L.toArray.extract 0 L.toArray.size = L.toArray := by apply Array.extract_eq_self_of_le; omega
  rw [e1, e2] at h3
  refine srtO_uniq ?_ (srtL_srt L) (h3.trans (srtL_perm L).symm)
  unfold SrtO
  rw [List.pairwise_iff_getElem]
  intro i j hi hj hij
  have hi' : i < d'.size := by simpa using hi
  have hj' : j < d'.size := by simpa using hj
  have h4 := hs i j (Nat.zero_le _) hij (by omega)
  rw [getElem!_pos _ i hi', getElem!_pos _ j hj', cmpO_ltOf_false] at h4
  simpa using h4

theorem sort_offers {w : World} {b cap : Nat} {L : List Off} (h : OwnO w b L) (hsz : L.length < 4611686018427387904) :
    Calls Tryd.prog 43 #[.slice (some ⟨b, 0, none⟩) L.length cap, .func (.func 44) #[] #[]] w fun e w' =>
      e = .returned (.tuple #[]) ∧ OwnO w' b (srtL L) ∧ Frm (fun k => k = b) w w' := by
  have eg : ∀ args w, (callFunc 44 args).run Tryd.prog w = .ok (.enter 44 args) w := enters_of Tryd.func44 (by kernel_rfl) rfl
  have hcmp : CmpLays Tryd.prog 44 #[] encO 2 cmpO b 0 L.toArray.size w := by
    intro m os dk hdk x y
    exact byGoods_any x y _
  have hH := holds_of_own h
  have hk := AnyQ.slices_SortFunc Tryd.sortOff 2 (by intro w; kernel_rfl) (by intro w; kernel_rfl) encO (fun _ => rfl) (by intro x v hv; simp only [encO, List.mem_cons, List.not_mem_nil, or_false] at hv; rcases hv with rfl | rfl <;> rfl) cmpO cmpO_swo 44 #[] b 0 cap L.toArray w eg hcmp hH h.lt (by simpa using hsz)
  refine Calls.mono hk ?_
  rintro e w' ⟨rfl, d', n, os, hp, hs, rfl⟩
  have hd := sorted_is hp hs
  have hH' := holdsK_sortWorldK encO 2 w b 0 n L.toArray d' os h.lt hH hp.1
  have hfr := sortWorldK_frm encO 2 w b n d' os
  refine ⟨rfl, ?_, hfr⟩
  rw [← hd]
  exact own_of_holds hH' (fun j => by rw [sortWorldK_fz _ _ _ _ _ _ _ h.lt]; exact h.fz j) (Nat.lt_of_lt_of_le h.lt hfr.size)
end Go.Proofs.YtnambpbhkehijaaDoor
