/- Time goes on: what is due is told. -/
import Derived.Test.YtbaibikpdaphoaaD3
namespace Go.Proofs.Ytbaibikpdaphoaa
open Go.RowKit Go.Lib Go.Maps

theorem owns_frm {w w' : World} {B e k n : Nat} {v : Value} {xs : List Value} {S : Nat → Prop} (h : w.ownsRow B e k v n xs) (hf : Frm S w w') (hS : ∀ k, v.ownBlock = some k → ¬ S k) : w'.ownsRow B e k v n xs := by
  obtain ⟨h1, h2⟩ := h
  refine ⟨h1, ?_⟩
  rcases h2 with h2 | ⟨g, cap, cur, rfl, h3, h4, r⟩
  · exact Or.inl h2
  · exact Or.inr ⟨g, cap, cur, rfl, h3, by rw [hf.block g (Array.getElem?_eq_some_iff.1 h4).1 (hS g rfl)]; exact h4, r⟩

theorem owns_ge {w : World} {B e k n : Nat} {v : Value} {xs : List Value} (h : w.ownsRow B e k v n xs) : ∀ q, v.ownBlock = some q → B ≤ q ∧ q < w.heap.size := fun q hq => h.lt q hq

theorem due_split {t : Int} : ∀ {D R' : List Due}, (∀ x ∈ D, x.1 ≤ t) → (R' = [] ∨ ∃ x R'', R' = x :: R'' ∧ t < x.1) → due t (D ++ R') = D ∧ rest t (D ++ R') = R'
  | [], R', _, h => by
    rcases h with rfl | ⟨x, R'', rfl, hx⟩
    · exact ⟨rfl, rfl⟩
    · unfold due rest
      rw [List.nil_append, List.takeWhile_cons_of_neg (by simp; omega), List.dropWhile_cons_of_neg (by simp; omega)]
      exact ⟨rfl, rfl⟩
  | y :: D, R', hD, h => by
    have ih := due_split (t := t) (D := D) (fun x hx => hD x (List.mem_cons_of_mem _ hx)) h
    have hy := hD y (List.mem_cons_self ..)
    unfold due rest at *
    rw [List.cons_append, List.takeWhile_cons_of_pos (by simpa using hy), List.dropWhile_cons_of_pos (by simpa using hy), ih.1, ih.2]
    exact ⟨rfl, rfl⟩

/-- While what is due is told. -/
structure Up (w ws : World) (bc bm : Nat) (v0 : Value) (t : Int) (R : List Due) (told : Value) (D R' : List Due) (vv : Value) (G : List Due) (P : Int → Option Nat) : Prop where
  own : ws.ownsRow w.heap.size 26 2 told D.length (flatD D)
  cal : Cal ws bc bm vv t G P
  blk : vv.ownBlock = v0.ownBlock
  perm : G.Perm R'
  split : D ++ R' = R
  le : ∀ x ∈ D, x.1 ≤ t
  frm : Frm (fun k => k = bc ∨ k = bm ∨ v0.ownBlock = some k) w ws

/-- What Upto leaves. -/
def UpP (w : World) (bt : Nat) (F : Nat → Prop) (t : Int) (R : List Due) (e : Ending) (w' : World) : Prop :=
  ∃ told F', e = .returned (.tuple #[told, .int .i64 0]) ∧ w'.ownsRow w.heap.size 26 2 told (due t R).length (flatD (due t R)) ∧ TkS w' bt F' t (rest t R) ∧ Frm F w w' ∧ ∀ k, F' k → F k ∧ k < w.heap.size

theorem up_done {w ws : World} {bt bc bm : Nat} {v0 : Value} {F : Nat → Prop} {now t : Int} {R D R' G0 G : List Due} {told vv : Value} {P0 P : Int → Option Nat} (h : Tk w bt F now R bc bm v0 G0 P0) (hU : Up w ws bc bm v0 t R told D R' vv G P) (hR : R' = [] ∨ ∃ x R'', R' = x :: R'' ∧ t < x.1) :
    UpP w bt F t R (.returned (.tuple #[told, .int .i64 0])) ws := by
  have hnt := h.nt
  have htl := (Array.getElem?_eq_some_iff.1 h.top).1
  have hcl := h.cal.lt
  have hml := h.cal.map.lt
  have hvl := h.cal.sl.lt
  obtain ⟨d1, d2⟩ := due_split (t := t) hU.le hR
  rw [hU.split] at d1 d2
  have htop : ws.heap[bt]? = some (.cells #[.pointer (some ⟨bc, 0, none⟩)] 67 (0, 0)) := by
    rw [hU.frm.block bt htl (by rintro (e | e | e); exact hnt.1 e; exact hnt.2.1 e; exact hnt.2.2 e)]; exact h.top
  have hsrt : Srt R' := by
    have := h.srt
    rw [← hU.split] at this
    exact this.sublist (List.sublist_append_right _ _)
  refine ⟨told, fun k => k = bt ∨ k = bc ∨ k = bm ∨ v0.ownBlock = some k, rfl, by rw [d1]; exact hU.own, ⟨bc, bm, vv, G, P, htop, hU.cal, by rw [d2]; exact hU.perm, by rw [d2]; exact hsrt, Or.inl rfl, Or.inr (Or.inl rfl), Or.inr (Or.inr (Or.inl rfl)), fun k hk => ?_, hnt.1, hnt.2.1, ?_⟩, Frm.mono hU.frm (fun k _ hk => ?_), fun k hk => ?_⟩
  · rw [hU.blk] at hk
    exact Or.inr (Or.inr (Or.inr hk))
  · rw [hU.blk]; exact hnt.2.2
  · rcases hk with e | e | e
    · rw [e]; exact h.fc
    · rw [e]; exact h.fm
    · exact h.fv k e
  · rcases hk with e | e | e | e
    · rw [e]; exact ⟨h.ft, htl⟩
    · rw [e]; exact ⟨h.fc, hcl⟩
    · rw [e]; exact ⟨h.fm, hml⟩
    · exact ⟨h.fv k e, hvl k e⟩

/-- One more is told. -/
theorem up_step {w ws w2 w6 : World} {bc bm hb cap e g cap6 : Nat} {v0 told : Value} {t : Int} {R D R'' G G' : List Due} {x : Due} {P P' : Int → Option Nat} {o : Obj} (hU : Up w ws bc bm v0 t R told D (x :: R'') (.slice (some ⟨hb, 0, none⟩) (e + 1) cap) G P) (hx : x.1 ≤ t)
    (hC : Cal w2 bc bm (.slice (some ⟨hb, 0, none⟩) e cap) t G' P') (hp : (G' ++ [x]).Perm G) (hf : Frm (fun k => k = bc ∨ k = bm ∨ k = hb) ws w2)
    (hown : w6.ownsRow w.heap.size 26 2 (.slice (some ⟨g, 0, none⟩) (D.length + 1) cap6) (D.length + 1) (flatD D ++ [.int .i64 x.1, .int .i64 x.2])) (hg : (w2.alloc o).grownBy w6 told.ownBlock)
    (hlt : bc < w.heap.size ∧ bm < w.heap.size ∧ hb < w.heap.size) : Up w w6 bc bm v0 t R (.slice (some ⟨g, 0, none⟩) (D.length + 1) cap6) (D ++ [x]) R'' (.slice (some ⟨hb, 0, none⟩) e cap) G' P' := by
  have hge := owns_ge hU.own
  have hsz := hU.frm.size
  have hsz2 := hf.size
  have hf6 : Frm (fun k => told.ownBlock = some k) w2 w6 := Frm.grown (Frm.mono ((Old.refl w2).alloc o) (fun _ _ h => h.elim)) hg (fun k hk => Or.inr hk)
  have hne : ∀ q, q < w.heap.size → ¬ told.ownBlock = some q := fun q hq e => by have := (hge q e).1; omega
  have hblk : (.slice (some ⟨hb, 0, none⟩) (e + 1) cap : Value).ownBlock = v0.ownBlock := hU.blk
  have hv0 : v0.ownBlock = some hb := by rw [← hblk]; rfl
  refine ⟨?_, hC.kept hf6 (hne _ hlt.1) (hne _ hlt.2.1) (fun k hk => ?_), by rw [hv0]; rfl, ?_, ?_, ?_, ?_⟩
  · rw [List.length_append, flatD_append]; exact hown
  · simp [Value.ownBlock] at hk
    rw [← hk]; exact hne _ hlt.2.2
  · have h1 : (x :: G').Perm (x :: R'') := (List.perm_append_comm (l₁ := [x]) (l₂ := G')).trans (hp.trans hU.perm)
    exact (List.perm_cons x).1 h1
  · rw [← hU.split]; simp
  · intro y hy
    rcases List.mem_append.1 hy with h1 | h1
    · exact hU.le y h1
    · simp at h1; rw [h1]; exact hx
  · have h2 : Frm (fun k => k = bc ∨ k = bm ∨ v0.ownBlock = some k) w w2 := Frm.trans hU.frm hf (fun k _ h => by
      rcases h with h | h | h
      · exact Or.inl h
      · exact Or.inr (Or.inl h)
      · exact Or.inr (Or.inr (by rw [h]; exact hv0)))
    exact Frm.trans h2 hf6 (fun k hk h => absurd h (hne k hk))
end Go.Proofs.Ytbaibikpdaphoaa
