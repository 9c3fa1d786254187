/- A copy in the place of the other one. -/
import Derived.Test.YtnhglckhkhmonaaV2
namespace Go.Proofs.Ytnhglckhkhmonaa
open Go.RowKit

theorem frm_two (w : World) (a i b j : Nat) (u v : Value) : Frm (fun k => k = a ∨ k = b) w ((w.setCell ⟨a, i, none⟩ u).setCell ⟨b, j, none⟩ v) :=
  Frm.trans (Frm.mono (frm_set w a i u) (fun _ _ e => Or.inl e)) (frm_set _ b j v) (fun _ _ e => Or.inr e)

theorem ST.copy {W0 w w' : World} {bl bA bR : Nat} {l : Lt} {P Q : Nat → Value} {S : Nat → Option Sl} (h : ST W0 w bl bA bR l P Q S S) {k j : Nat} (hk : k < 2) (hj : j < 2) (hkj : j ≠ k) {p q : Value} (o : Old w w') (hp : FP w' p l (S k)) (hq : RP w' q l (S k)) (np : ∀ b, p = pt b → w.heap.size ≤ b) (nq : ∀ b, q = pt b → w.heap.size ≤ b) :
    ST W0 ((w'.setCell ⟨bA, j, none⟩ p).setCell ⟨bR, j, none⟩ q) bl bA bR l (upd P j p) (upd Q j q) (upd S j (S k)) (upd S j (S k)) := by
  have h' := h.olds o
  have hf := frm_two w' bA j bR j p q
  have hAR : bA ≠ bR := typ_ne h'.arr h'.rrr (by decide)
  have fr : ∀ {x : Value} {st : Option Sl}, FP w' x l st → FP ((w'.setCell ⟨bA, j, none⟩ p).setCell ⟨bR, j, none⟩ q) x l st := fun hx => hx.frm hf
    (fun b e1 e2 => by
      obtain ⟨arr, ha⟩ := hx.typ e1
      rcases e2 with rfl | rfl
      · exact typ_ne ha h'.arr (by decide) rfl
      · exact typ_ne ha h'.rrr (by decide) rfl)
    (fun b arr e1 e2 => by
      rcases e1 with rfl | rfl
      · exact typ_ne e2 h'.arr (by decide) rfl
      · exact typ_ne e2 h'.rrr (by decide) rfl)
  have rr : ∀ {x : Value} {st : Option Sl}, RP w' x l st → RP ((w'.setCell ⟨bA, j, none⟩ p).setCell ⟨bR, j, none⟩ q) x l st := fun hx => hx.frm hf
    (fun b e1 e2 => by
      obtain ⟨arr, ha⟩ := hx.typ e1
      rcases e2 with rfl | rfl
      · exact typ_ne ha h'.arr (by decide) rfl
      · exact typ_ne ha h'.rrr (by decide) rfl)
  have pold : ∀ i b, i < 2 → P i = pt b → b < w.heap.size := fun i b hi e => by
    obtain ⟨arr, ha⟩ := (h.f i hi).typ e
    exact blk_lt ha
  have qold : ∀ i b, i < 2 → Q i = pt b → b < w.heap.size := fun i b hi e => by
    obtain ⟨arr, ha⟩ := (h.r i hi).typ e
    exact blk_lt ha
  have z0 := h.old.size
  refine ⟨Frm.trans h'.old hf (fun i hi e => by have := h.lo; rcases e with rfl | rfl <;> omega), frm_blk hf h'.lot (fun e => ?_), ?_, ?_, fun i hi => ?_, fun i hi => ?_, fun b e1 e2 => ?_, fun b e1 e2 => ?_, fun i b hi e => ?_, fun i b hi e => ?_, h.lo⟩
  · rcases e with e | e
    · exact typ_ne (show w'.heap[bl]? = some (.cells _ 25 (0, 0)) from h'.lot) h'.arr (by decide) e
    · exact typ_ne (show w'.heap[bl]? = some (.cells _ 25 (0, 0)) from h'.lot) h'.rrr (by decide) e
  · have h1 := heap_set (i := j) p h'.arr
    have h2 := frm_blk (frm_set (w'.setCell ⟨bA, j, none⟩ p) bR j q) h1 hAR
    rw [h2]
    rcases two_lt hj hk hkj with ⟨rfl, rfl⟩ | ⟨rfl, rfl⟩ <;> simp [upd]
  · have h1 := frm_blk (frm_set w' bA j p) h'.rrr (fun e => hAR e.symm)
    have h2 := heap_set (i := j) q h1
    rw [h2]
    rcases two_lt hj hk hkj with ⟨rfl, rfl⟩ | ⟨rfl, rfl⟩ <;> simp [upd]
  · by_cases e : i = j
    · subst e
      rw [upd_same, upd_same]
      exact fr hp
    · rw [upd_oth _ _ e, upd_oth _ _ e]
      exact fr (h'.f i hi)
  · by_cases e : i = j
    · subst e
      rw [upd_same, upd_same]
      exact rr hq
    · rw [upd_oth _ _ e, upd_oth _ _ e]
      exact rr (h'.r i hi)
  · rcases two_lt hj hk hkj with ⟨rfl, rfl⟩ | ⟨rfl, rfl⟩
    · rw [upd_same] at e1
      rw [upd_oth _ _ (by decide)] at e2
      have := np b e1
      have := pold 1 b (by omega) e2
      omega
    · rw [upd_oth _ _ (by decide)] at e1
      rw [upd_same] at e2
      have := np b e2
      have := pold 0 b (by omega) e1
      omega
  · rcases two_lt hj hk hkj with ⟨rfl, rfl⟩ | ⟨rfl, rfl⟩
    · rw [upd_same] at e1
      rw [upd_oth _ _ (by decide)] at e2
      have := nq b e1
      have := qold 1 b (by omega) e2
      omega
    · rw [upd_oth _ _ (by decide)] at e1
      rw [upd_same] at e2
      have := nq b e2
      have := qold 0 b (by omega) e1
      omega
  · by_cases e' : i = j
    · subst e'
      rw [upd_same] at e
      have := np b e
      omega
    · rw [upd_oth _ _ e'] at e
      exact h.pl i b hi e
  · by_cases e' : i = j
    · subst e'
      rw [upd_same] at e
      have := nq b e
      omega
    · rw [upd_oth _ _ e'] at e
      exact h.ql i b hi e

/-- Both are there, or neither is. -/
theorem both_or {w : World} {p q : Value} {l : Lt} {st : Option Sl} (h : FP w p l st) (k : RP w q l st) : (p = .pointer none ∧ q = .pointer none) ∨ ∃ b d, p = pt b ∧ q = pt d := by
  cases st with
  | none => exact Or.inl ⟨h, k⟩
  | some so =>
    obtain ⟨_, b, h1, _⟩ := h
    obtain ⟨_, d, h2, _⟩ := k
    exact Or.inr ⟨b, d, h1, h2⟩

end Go.Proofs.Ytnhglckhkhmonaa
