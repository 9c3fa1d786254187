/- Two boxes and the document's beside them: who has which block. -/
import Derived.Test.YtfmeobelpideoaaP7
import Derived.Test.YtfmeobelpideoaaP4
namespace Go.Proofs.Ytfmeobelpideoaa
open Go.RowKit

structure St where
  fl : Nat → Int
  L : Nat → List Sec
  pb : Nat → Nat
  ib : Nat → Nat
  rb : Nat → Nat
  v : Nat → Value
  vr : Nat → Value

def up {α : Type} (f : Nat → α) (k : Nat) (x : α) : Nat → α := fun i => if i = k then x else f i
theorem up_same {α : Type} (f : Nat → α) (k : Nat) (x : α) : up f k x k = x := if_pos rfl
theorem up_oth {α : Type} (f : Nat → α) {k i : Nat} (x : α) (h : i ≠ k) : up f k x i = f i := if_neg h

/-- Box k and the document's beside it have other rows. -/
def St.row (S : St) (k : Nat) (v vr : Value) (L : List Sec) : St := { S with L := up S.L k L, v := up S.v k v, vr := up S.vr k vr }
/-- A copy in the place of another one. -/
def St.cpy (S : St) (j : Nat) (fl : Int) (L : List Sec) (pb ib rb : Nat) (v vr : Value) : St := ⟨up S.fl j fl, up S.L j L, up S.pb j pb, up S.ib j ib, up S.rb j rb, up S.v j v, up S.vr j vr⟩

def ptrV (b : Nat) : Value := .pointer (some ⟨b, 0, none⟩)

structure PW (w0 w : World) (wb n : Nat) (S : St) : Prop where
  wld : w.heap[wb]? = some (.cells #[ptrV (S.pb 0), ptrV (S.pb 1), ptrV (S.rb 0), ptrV (S.rb 1)] 49 (0, 0))
  box : ∀ k, k < 2 → Bx w (S.pb k) (S.ib k) w0.heap.size (S.fl k) (S.v k) (S.L k)
  ref : ∀ k, k < 2 → Rf w (S.rb k) (S.fl k) (S.vr k) (S.L k)
  len : ∀ k, k < 2 → (S.L k).length ≤ n
  nib : ∀ i j, i < 2 → j < 2 → i ≠ j → S.ib i ≠ S.ib j
  nrb : ∀ i j, i < 2 → j < 2 → i ≠ j → S.rb i ≠ S.rb j
  nrow : ∀ i j g, i < 2 → j < 2 → i ≠ j → (S.v i).ownBlock = some g → (S.v j).ownBlock ≠ some g
  nrr : ∀ i j g, i < 2 → j < 2 → rblk (S.vr i) = some g → (S.v j).ownBlock ≠ some g
  lo : w0.heap.size ≤ wb ∧ ∀ k, k < 2 → w0.heap.size ≤ S.ib k ∧ w0.heap.size ≤ S.rb k
  old : Old w0 w

theorem typ_ne {w : World} {a b : Nat} {c1 c2 : Array Value} {t1 t2 : TypeId} {f1 f2 : Nat × Nat} (h1 : w.heap[a]? = some (.cells c1 t1 f1)) (h2 : w.heap[b]? = some (.cells c2 t2 f2)) (ht : t1 ≠ t2) : a ≠ b := by
  rintro rfl
  rw [h1] at h2
  simp only [Option.some.injEq, Obj.cells.injEq] at h2
  exact ht h2.2.1

/-- What keeps all of it. -/
theorem PW.frm {Q : Nat → Prop} {w0 w w' : World} {wb n : Nat} {S : St} (h : PW w0 w wb n S) (f : Frm Q w w') (h1 : ¬ Q wb) (h2 : ∀ k, k < 2 → ¬ Q (S.pb k) ∧ ¬ Q (S.ib k) ∧ ¬ Q (S.rb k)) (h3 : ∀ k g, k < 2 → (S.v k).ownBlock = some g → ¬ Q g) (h4 : ∀ k g, k < 2 → rblk (S.vr k) = some g → ¬ Q g) (h5 : ∀ g, g < w0.heap.size → ¬ Q g) : PW w0 w' wb n S :=
  ⟨by rw [f.block wb (blk_lt h.wld) h1]; exact h.wld, fun k hk => (h.box k hk).frm f (h2 k hk).1 (h2 k hk).2.1 (fun g hg => h3 k g hk hg), fun k hk => (h.ref k hk).frm f (h2 k hk).2.2 (fun g hg => h4 k g hk hg), h.len, h.nib, h.nrb, h.nrow, h.nrr, h.lo, Frm.trans h.old f (fun i hi e => (h5 i hi e).elim)⟩
theorem PW.olds {w0 w w' : World} {wb n : Nat} {S : St} (h : PW w0 w wb n S) (o : Old w w') : PW w0 w' wb n S := h.frm o (fun h => h) (fun _ _ => ⟨fun h => h, fun h => h, fun h => h⟩) (fun _ _ _ _ h => h) (fun _ _ _ _ h => h) (fun _ _ h => h)
theorem PW.more {w0 w : World} {wb n m : Nat} {S : St} (h : PW w0 w wb n S) (hm : n ≤ m) : PW w0 w wb m S := ⟨h.wld, h.box, h.ref, fun k hk => Nat.le_trans (h.len k hk) hm, h.nib, h.nrb, h.nrow, h.nrr, h.lo, h.old⟩

/-- A bid is made, or taken back, at box k and by the document. -/
theorem PW.step {w0 w w2 w3 : World} {wb n k : Nat} {S : St} {v' vr' : Value} {L' : List Sec} (h : PW w0 w wb n S) (hk : k < 2) (hb : Bx w2 (S.pb k) (S.ib k) w0.heap.size (S.fl k) v' L') (f2 : Frm (fun j => j = S.ib k ∨ (S.v k).ownBlock = some j) w w2) (hv : v'.ownBlock = (S.v k).ownBlock ∨ ∃ g, v'.ownBlock = some g ∧ w.heap.size ≤ g)
    (hr : Rf w3 (S.rb k) (S.fl k) vr' L') (hvr : vr' = S.vr k ∨ ∀ g, rblk vr' = some g → w2.heap.size ≤ g) (f3 : Frm (fun j => j = S.rb k) w2 w3) (hl : L'.length ≤ n + 1) : PW w0 w3 wb (n + 1) (S.row k v' vr' L') := by
  have bk := h.box k hk
  have rk := h.ref k hk
  have f23 : Frm (fun j => (j = S.ib k ∨ (S.v k).ownBlock = some j) ∨ j = S.rb k) w w3 := Frm.trans (f2.mono (fun _ _ h => Or.inl h)) f3 (fun _ _ h => Or.inr h)
  have rty : ∀ g, (S.v k).ownBlock = some g → ∃ cur, w.heap[g]? = some (.cells cur 39 (0, 0)) := fun g hg => owns_row_block bk.row hg
  have keep : ∀ {a : Nat} {c : Array Value} {t : TypeId}, w.heap[a]? = some (.cells c t (0, 0)) → t ≠ 83 → t ≠ 39 → t ≠ 54 → ¬ ((a = S.ib k ∨ (S.v k).ownBlock = some a) ∨ a = S.rb k) := by
    rintro a c t ha h1 h2 h3 ((e | e) | e)
    · exact typ_ne ha bk.ins h1 e
    · obtain ⟨cur, hc⟩ := rty a e
      exact typ_ne ha hc h2 rfl
    · exact typ_ne ha rk.box h3 e
  refine ⟨?_, ?_, ?_, ?_, h.nib, h.nrb, ?_, ?_, h.lo, ?_⟩
  · rw [f23.block wb (blk_lt h.wld) (keep h.wld (by decide) (by decide) (by decide))]
    exact h.wld
  · intro i hi
    by_cases e : i = k
    · subst e
      show Bx w3 (S.pb i) (S.ib i) w0.heap.size (S.fl i) (up S.v i v' i) (up S.L i L' i)
      rw [up_same, up_same]
      refine hb.frm f3 (typ_ne hb.box (f2.block _ (blk_lt rk.box) (by
        rintro (e | e)
        · exact typ_ne rk.box bk.ins (by decide) e
        · obtain ⟨cur, hc⟩ := rty _ e
          exact typ_ne rk.box hc (by decide) rfl) ▸ rk.box) (by decide)) ?_ ?_
      · exact typ_ne hb.ins (f2.block _ (blk_lt rk.box) (by
          rintro (e | e)
          · exact typ_ne rk.box bk.ins (by decide) e
          · obtain ⟨cur, hc⟩ := rty _ e
            exact typ_ne rk.box hc (by decide) rfl) ▸ rk.box) (by decide)
      · intro g hg e
        obtain ⟨cur, hc⟩ := owns_row_block hb.row hg
        exact typ_ne hc (f2.block _ (blk_lt rk.box) (by
          rintro (e | e)
          · exact typ_ne rk.box bk.ins (by decide) e
          · obtain ⟨cur, hc⟩ := rty _ e
            exact typ_ne rk.box hc (by decide) rfl) ▸ rk.box) (by decide) e
    · show Bx w3 (S.pb i) (S.ib i) w0.heap.size (S.fl i) (up S.v k v' i) (up S.L k L' i)
      rw [up_oth _ _ e, up_oth _ _ e]
      have bi := h.box i hi
      refine bi.frm f23 (keep bi.box (by decide) (by decide) (by decide)) ?_ ?_
      · rintro ((e2 | e2) | e2)
        · exact h.nib i k hi hk e e2
        · obtain ⟨cur, hc⟩ := rty _ e2
          exact typ_ne bi.ins hc (by decide) rfl
        · exact typ_ne bi.ins rk.box (by decide) e2
      · rintro g hg ((e2 | e2) | e2)
        · obtain ⟨cur, hc⟩ := owns_row_block bi.row hg
          exact typ_ne hc bk.ins (by decide) e2
        · exact h.nrow i k g hi hk e hg e2
        · obtain ⟨cur, hc⟩ := owns_row_block bi.row hg
          exact typ_ne hc rk.box (by decide) e2
  · intro i hi
    by_cases e : i = k
    · subst e
      show Rf w3 (S.rb i) (S.fl i) (up S.vr i vr' i) (up S.L i L' i)
      rw [up_same, up_same]
      exact hr
    · show Rf w3 (S.rb i) (S.fl i) (up S.vr k vr' i) (up S.L k L' i)
      rw [up_oth _ _ e, up_oth _ _ e]
      have ri := h.ref i hi
      refine ri.frm f23 ?_ ?_
      · rintro ((e2 | e2) | e2)
        · exact typ_ne ri.box bk.ins (by decide) e2
        · obtain ⟨cur, hc⟩ := rty _ e2
          exact typ_ne ri.box hc (by decide) rfl
        · exact h.nrb i k hi hk e e2
      · rintro g hg ((e2 | e2) | e2)
        · obtain ⟨cur, hc⟩ := ri.bty hg
          exact typ_ne hc bk.ins (by decide) e2
        · exact h.nrr i k g hi hk hg e2
        · obtain ⟨cur, hc⟩ := ri.bty hg
          exact typ_ne hc rk.box (by decide) e2
  · intro i hi
    show (up S.L k L' i).length ≤ n + 1
    by_cases e : i = k
    · rw [e, up_same]; exact hl
    · rw [up_oth _ _ e]
      have := h.len i hi
      omega
  · intro i j g hi hj hn h0
    show (up S.v k v' j).ownBlock ≠ some g
    have h1 : (up S.v k v' i).ownBlock = some g := h0
    clear h0
    by_cases ei : i = k
    · have ej : j ≠ k := fun e => hn (by omega)
      rw [up_oth _ _ ej]
      subst ei
      rw [up_same] at h1
      rcases hv with e2 | ⟨g', e2, hg'⟩
      · rw [e2] at h1
        exact h.nrow i j g hi hj hn h1
      · intro e3
        have := ((h.box j hj).row.lt g e3).2
        rw [h1] at e2
        cases e2
        omega
    · rw [up_oth _ _ ei] at h1
      by_cases ej : j = k
      · subst ej
        rw [up_same]
        rcases hv with e2 | ⟨g', e2, hg'⟩
        · rw [e2]
          exact h.nrow i j g hi hj hn h1
        · intro e3
          have := ((h.box i hi).row.lt g h1).2
          rw [e3] at e2
          cases e2
          omega
      · rw [up_oth _ _ ej]
        exact h.nrow i j g hi hj hn h1
  · intro i j g hi hj h0
    show (up S.v k v' j).ownBlock ≠ some g
    have h1 : rblk (up S.vr k vr' i) = some g := h0
    clear h0
    have old_r : ∀ i, i < 2 → rblk (S.vr i) = some g → (up S.v k v' j).ownBlock ≠ some g := fun i hi h2 => by
      by_cases ej : j = k
      · subst ej
        rw [up_same]
        rcases hv with e2 | ⟨g', e2, hg'⟩
        · rw [e2]
          exact h.nrr i j g hi hj h2
        · intro e3
          have := (h.ref i hi).blt h2
          rw [e3] at e2
          cases e2
          omega
      · rw [up_oth _ _ ej]
        exact h.nrr i j g hi hj h2
    by_cases ei : i = k
    · subst ei
      rw [up_same] at h1
      rcases hvr with e2 | e2
      · rw [e2] at h1
        exact old_r i hi h1
      · have hge := e2 g h1
        intro e3
        by_cases ej : j = i
        · subst ej
          rw [up_same] at e3
          have := (hb.row.lt g e3).2
          omega
        · rw [up_oth _ _ ej] at e3
          have := ((h.box j hj).row.lt g e3).2
          have := f2.size
          omega
    · rw [up_oth _ _ ei] at h1
      exact old_r i hi h1
  · refine Frm.trans h.old f23 (fun i hi e => ?_)
    rcases e with (e | e) | e
    · have := (h.lo.2 k hk).1
      omega
    · have := (bk.row.lt i e).1
      omega
    · have := (h.lo.2 k hk).2
      omega
/-- A copy of k in the place of j. -/
theorem PW.copy {w0 w w2 w4 : World} {wb n k j : Nat} {S : St} {pb' ib' rb' : Nat} {v' : Value} (h : PW w0 w wb n S) (hk : k < 2)
    (hb : Bx w2 pb' ib' w.heap.size (S.fl k) v' (S.L k)) (hi : w.heap.size ≤ ib') (o2 : Old w w2) (hrb : w2.heap.size ≤ rb')
    (hr : w4.heap[rb']? = some (.cells #[.int .i64 (S.fl k), S.vr k] 54 (0, 0))) (f4 : Frm (fun q => q = wb) w2 w4) (hw : w4.heap[wb]? = some (.cells #[ptrV (up S.pb j pb' 0), ptrV (up S.pb j pb' 1), ptrV (up S.rb j rb' 0), ptrV (up S.rb j rb' 1)] 49 (0, 0))) :
    PW w0 w4 wb n (S.cpy j (S.fl k) (S.L k) pb' ib' rb' v' (S.vr k)) := by
  have h2 := h.olds o2
  have ne : ∀ {a : Nat} {c : Array Value} {t : TypeId}, w2.heap[a]? = some (.cells c t (0, 0)) → t ≠ 49 → ¬ a = wb := fun ha ht e => typ_ne ha h2.wld ht e
  have b4 : ∀ i, i < 2 → Bx w4 (S.pb i) (S.ib i) w0.heap.size (S.fl i) (S.v i) (S.L i) := fun i hi => (h2.box i hi).frm f4 (ne (h2.box i hi).box (by decide)) (ne (h2.box i hi).ins (by decide)) (fun g hg => by
    obtain ⟨cur, hc⟩ := owns_row_block (h2.box i hi).row hg
    exact ne hc (by decide))
  have r4 : ∀ i, i < 2 → Rf w4 (S.rb i) (S.fl i) (S.vr i) (S.L i) := fun i hi => (h2.ref i hi).frm f4 (ne (h2.ref i hi).box (by decide)) (fun g hg => by
    obtain ⟨cur, hc⟩ := (h2.ref i hi).bty hg
    exact ne hc (by decide))
  have nb4 : Bx w4 pb' ib' w0.heap.size (S.fl k) v' (S.L k) := by
    have := hb.frm f4 (ne hb.box (by decide)) (ne hb.ins (by decide)) (fun g hg => by
      obtain ⟨cur, hc⟩ := owns_row_block hb.row hg
      exact ne hc (by decide))
    refine ⟨this.box, this.ins, ⟨this.row.1, ?_⟩⟩
    rcases this.row.2 with e | ⟨g, cap, cur, e1, e2, e3⟩
    · exact Or.inl e
    · exact Or.inr ⟨g, cap, cur, e1, Nat.le_trans h.old.size e2, e3⟩
  have nr4 : Rf w4 rb' (S.fl k) (S.vr k) (S.L k) := ⟨hr, (r4 k hk).sec⟩
  have hsz := o2.size
  have hsz0 := h.old.size
  have lts : ∀ i, i < 2 → S.ib i < w.heap.size ∧ S.rb i < w.heap.size ∧ ∀ g, (S.v i).ownBlock = some g → g < w.heap.size := fun i hi => ⟨blk_lt (h.box i hi).ins, blk_lt (h.ref i hi).box, fun g hg => ((h.box i hi).row.lt g hg).2⟩
  refine ⟨hw, ?_, ?_, ?_, ?_, ?_, ?_, ?_, ⟨h.lo.1, ?_⟩, Frm.trans (h.old.trans o2) f4 (fun i hi e => by have := h.lo.1; omega)⟩
  · intro i hi
    show Bx w4 (up S.pb j pb' i) (up S.ib j ib' i) w0.heap.size (up S.fl j (S.fl k) i) (up S.v j v' i) (up S.L j (S.L k) i)
    by_cases e : i = j
    · rw [e, up_same, up_same, up_same, up_same, up_same]; exact nb4
    · rw [up_oth _ _ e, up_oth _ _ e, up_oth _ _ e, up_oth _ _ e, up_oth _ _ e]; exact b4 i hi
  · intro i hi
    show Rf w4 (up S.rb j rb' i) (up S.fl j (S.fl k) i) (up S.vr j (S.vr k) i) (up S.L j (S.L k) i)
    by_cases e : i = j
    · rw [e, up_same, up_same, up_same, up_same]; exact nr4
    · rw [up_oth _ _ e, up_oth _ _ e, up_oth _ _ e, up_oth _ _ e]; exact r4 i hi
  · intro i hi
    show (up S.L j (S.L k) i).length ≤ n
    by_cases e : i = j
    · rw [e, up_same]; exact h.len k hk
    · rw [up_oth _ _ e]; exact h.len i hi
  · intro a b ha hb' hn
    show up S.ib j ib' a ≠ up S.ib j ib' b
    by_cases ea : a = j
    · have eb : b ≠ j := fun e => hn (by omega)
      rw [ea, up_same, up_oth _ _ eb]
      have := (lts b hb').1
      omega
    · rw [up_oth _ _ ea]
      by_cases eb : b = j
      · rw [eb, up_same]
        have := (lts a ha).1
        omega
      · rw [up_oth _ _ eb]; exact h.nib a b ha hb' hn
  · intro a b ha hb' hn
    show up S.rb j rb' a ≠ up S.rb j rb' b
    by_cases ea : a = j
    · have eb : b ≠ j := fun e => hn (by omega)
      rw [ea, up_same, up_oth _ _ eb]
      have := (lts b hb').2.1
      omega
    · rw [up_oth _ _ ea]
      by_cases eb : b = j
      · rw [eb, up_same]
        have := (lts a ha).2.1
        omega
      · rw [up_oth _ _ eb]; exact h.nrb a b ha hb' hn
  · intro a b g ha hb' hn h0
    show (up S.v j v' b).ownBlock ≠ some g
    have h1 : (up S.v j v' a).ownBlock = some g := h0
    clear h0
    by_cases ea : a = j
    · have eb : b ≠ j := fun e => hn (by omega)
      rw [ea, up_same] at h1
      rw [up_oth _ _ eb]
      intro e
      have := (lts b hb').2.2 g e
      have := (hb.row.lt g h1).1
      omega
    · rw [up_oth _ _ ea] at h1
      by_cases eb : b = j
      · rw [eb, up_same]
        intro e
        have := (lts a ha).2.2 g h1
        have := (hb.row.lt g e).1
        omega
      · rw [up_oth _ _ eb]; exact h.nrow a b g ha hb' hn h1
  · intro a b g ha hb' h0
    show (up S.v j v' b).ownBlock ≠ some g
    have h1 : rblk (up S.vr j (S.vr k) a) = some g := h0
    clear h0
    obtain ⟨a', ha', h1⟩ : ∃ a', a' < 2 ∧ rblk (S.vr a') = some g := by
      by_cases ea : a = j
      · rw [ea, up_same] at h1; exact ⟨k, hk, h1⟩
      · rw [up_oth _ _ ea] at h1; exact ⟨a, ha, h1⟩
    by_cases eb : b = j
    · rw [eb, up_same]
      intro e
      have := (h.ref a' ha').blt h1
      have := (hb.row.lt g e).1
      omega
    · rw [up_oth _ _ eb]; exact h.nrr a' b g ha' hb' h1
  · intro i hi
    show w0.heap.size ≤ up S.ib j ib' i ∧ w0.heap.size ≤ up S.rb j rb' i
    by_cases e : i = j
    · rw [e, up_same, up_same]
      omega
    · rw [up_oth _ _ e, up_oth _ _ e]; exact h.lo.2 i hi
end Go.Proofs.Ytfmeobelpideoaa
