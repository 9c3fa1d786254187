/- Where each number stands, while a free place moves about. -/
import Derived.Test.YtbaibikpdaphoaaH1
namespace Go.Proofs.Ytbaibikpdaphoaa

/-- No number twice. -/
def ND (G : List Due) : Prop := (G.map Prod.snd).Nodup

theorem ND.perm {G G' : List Due} (h : ND G) (p : G'.Perm G) : ND G' := (p.map Prod.snd).nodup_iff.2 h

theorem ND.inj {G : List Due} (h : ND G) {i j : Nat} (hi : i < G.length) (hj : j < G.length) (e : (at' G i).2 = (at' G j).2) : i = j := by
  rw [at_eq hi, at_eq hj] at e
  have hp := List.pairwise_iff_getElem.1 h
  rcases Nat.lt_trichotomy i j with hl | hl | hl
  · exact absurd (by rw [List.getElem_map, List.getElem_map]; exact e) (hp i j (by simpa using hi) (by simpa using hj) hl)
  · exact hl
  · exact absurd (by rw [List.getElem_map, List.getElem_map]; exact e.symm) (hp j i (by simpa using hj) (by simpa using hi) hl)

/-- Each number's place but that of the free one's. -/
structure PlB (G : List Due) (f : Nat) (o : Option Nat) (P : Int → Option Nat) : Prop where
  pl : ∀ i, i < G.length → i ≠ f → P (at' G i).2 = some i
  at_ : P (at' G f).2 = o
  no : ∀ x, P x ≠ none → ∃ i, i < G.length ∧ (at' G i).2 = x

/-- Each number's place. -/
structure Pl (G : List Due) (P : Int → Option Nat) : Prop where
  pl : ∀ i, i < G.length → P (at' G i).2 = some i
  no : ∀ x, P x ≠ none → ∃ i, i < G.length ∧ (at' G i).2 = x

def updF (P : Int → Option Nat) (x : Int) (p : Option Nat) : Int → Option Nat := fun y => if y = x then p else P y

theorem PlB.move {G : List Due} {f c : Nat} {o : Option Nat} {P : Int → Option Nat} (h : PlB G f o P) (hn : ND G) (hf : f < G.length) (hc : c < G.length) (hne : c ≠ f) : PlB (sw G f c) c o (updF P (at' G c).2 (some f)) := by
  refine ⟨?_, ?_, ?_⟩
  · intro i hi hic
    rw [sw_length] at hi
    rw [at_sw hf hc, if_neg hic]
    unfold updF
    by_cases e : i = f
    · rw [if_pos e, if_pos rfl, e]
    · rw [if_neg e, if_neg (fun e2 => hic (hn.inj hi hc e2))]
      exact h.pl i hi e
  · rw [at_sw hf hc, if_pos rfl]
    unfold updF
    rw [if_neg (fun e => hne (hn.inj hf hc e).symm)]
    exact h.at_
  · intro x hx
    unfold updF at hx
    by_cases e : x = (at' G c).2
    · refine ⟨f, by rw [sw_length]; exact hf, ?_⟩
      rw [at_sw hf hc, if_neg (Ne.symm hne), if_pos rfl, e]
    · rw [if_neg e] at hx
      obtain ⟨i, hi, h2⟩ := h.no x hx
      by_cases hif : i = f
      · subst hif
        exact ⟨c, by rw [sw_length]; exact hc, by rw [at_sw hf hc, if_pos rfl, h2]⟩
      · have hic : i ≠ c := by intro e2; subst e2; exact e h2.symm
        exact ⟨i, by rw [sw_length]; exact hi, by rw [at_sw hf hc, if_neg hic, if_neg hif, h2]⟩

theorem PlB.done {G : List Due} {f : Nat} {o : Option Nat} {P : Int → Option Nat} (h : PlB G f o P) (hn : ND G) (hf : f < G.length) : Pl G (updF P (at' G f).2 (some f)) := by
  refine ⟨?_, ?_⟩
  · intro i hi
    unfold updF
    by_cases e : i = f
    · subst e; rw [if_pos rfl]
    · rw [if_neg (fun e2 => e (hn.inj hi hf e2))]
      exact h.pl i hi e
  · intro x hx
    unfold updF at hx
    by_cases e : x = (at' G f).2
    · exact ⟨f, hf, e.symm⟩
    · rw [if_neg e] at hx
      exact h.no x hx

/-- What the memory has: all but the free place. -/
def MemB (M G : List Due) (f : Nat) : Prop := ∀ i, i < G.length → i ≠ f → at' M i = at' G i

theorem MemB.move {M G : List Due} {f c : Nat} (h : MemB M G f) (hM : G.length ≤ M.length) (hf : f < G.length) (hc : c < G.length) (hne : c ≠ f) : MemB (M.set f (at' M c)) (sw G f c) c := by
  intro i hi hic
  rw [sw_length] at hi
  rw [at_set (by omega), at_sw hf hc, if_neg hic]
  by_cases e : i = f
  · rw [if_pos e.symm, if_pos e]
    exact h c hc hne
  · rw [if_neg (Ne.symm e), if_neg e]
    exact h i hi e

theorem MemB.done {M G : List Due} {f : Nat} (h : MemB M G f) (hM : G.length ≤ M.length) (hf : f < G.length) : (M.set f (at' G f)).take G.length = G := by
  apply List.ext_getElem
  · simp; omega
  · intro i h1 h2
    have h3 : i < (M.set f (at' G f)).length := by simp; omega
    rw [List.getElem_take, ← at_eq h3, ← at_eq h2, at_set (by omega)]
    by_cases e : f = i
    · rw [if_pos e, e]
    · rw [if_neg e]
      exact h i h2 (Ne.symm e)

/-- All that holds while the free place moves about: G is what comes of it, d in the free place. -/
structure Mv (G0 : List Due) (d : Due) (o : Option Nat) (M G : List Due) (f : Nat) (P : Int → Option Nat) : Prop where
  perm : G.Perm G0
  nd : ND G
  fl : f < G.length
  at_ : at' G f = d
  but : HeapBut G f
  pl : PlB G f o P
  mem : MemB M G f
  ml : G.length ≤ M.length

theorem Mv.move {G0 : List Due} {d : Due} {o : Option Nat} {M G : List Due} {f c : Nat} {P : Int → Option Nat} (h : Mv G0 d o M G f P) (hc : c < G.length) (hne : c ≠ f) (hb : HeapBut (sw G f c) c) : Mv G0 d o (M.set f (at' M c)) (sw G f c) c (updF P (at' M c).2 (some f)) := by
  refine ⟨(sw_perm h.fl hc).trans h.perm, h.nd.perm (sw_perm h.fl hc), by rw [sw_length]; exact hc, ?_, hb, ?_, h.mem.move h.ml h.fl hc hne, by rw [sw_length, List.length_set]; exact h.ml⟩
  · rw [at_sw h.fl hc, if_pos rfl]; exact h.at_
  · rw [h.mem c hc hne]
    exact h.pl.move h.nd h.fl hc hne

theorem Mv.here {G0 : List Due} {d : Due} {o : Option Nat} {M G : List Due} {f c : Nat} {P : Int → Option Nat} (h : Mv G0 d o M G f P) (hc : c < G.length) (hne : c ≠ f) : P (at' M c).2 = some c := by
  rw [h.mem c hc hne]; exact h.pl.pl c hc hne

def fbI (M : List Due) (n f : Nat) : Nat := if 2 * f + 2 < n ∧ dlt (at' M (2 * f + 2)) (at' M (2 * f + 1)) then 2 * f + 2 else 2 * f + 1

theorem Mv.fb {G0 : List Due} {d : Due} {o : Option Nat} {M G : List Due} {f : Nat} {P : Int → Option Nat} (h : Mv G0 d o M G f P) : fbI M G.length f = fb G f := by
  unfold fbI Go.Proofs.Ytbaibikpdaphoaa.fb
  by_cases h2 : 2 * f + 2 < G.length
  · rw [h.mem (2 * f + 2) h2 (by omega), h.mem (2 * f + 1) (by omega) (by omega)]
  · rw [if_neg (fun hh => h2 hh.1), if_neg (fun hh => h2 hh.1)]
end Go.Proofs.Ytbaibikpdaphoaa
