/- A calendar's numbers in their order: what is set, what is due. -/
import Derived.Test.YtbaibikpdaphoaaH3
namespace Go.Proofs.Ytbaibikpdaphoaa

/-- In order. -/
def Srt (R : List Due) : Prop := R.Pairwise dlt

theorem dle_antisymm {a b : Due} (h : dle a b) (k : dle b a) : a = b := by
  unfold dle at *
  exact Prod.ext (by omega) (by omega)

theorem srt_uniq : ∀ {R R' : List Due}, Srt R → Srt R' → R.Perm R' → R = R'
  | [], R', _, _, p => (List.Perm.nil_eq p)
  | x :: R, [], _, _, p => absurd p.symm (by intro h; exact absurd (List.Perm.nil_eq h) (by simp))
  | x :: R, y :: R', h, h', p => by
    have hx := List.pairwise_cons.1 h
    have hy := List.pairwise_cons.1 h'
    have e : x = y := by
      have m1 : x ∈ y :: R' := p.mem_iff.1 (List.mem_cons_self ..)
      have m2 : y ∈ x :: R := p.mem_iff.2 (List.mem_cons_self ..)
      rcases List.mem_cons.1 m1 with e | m1
      · exact e
      · rcases List.mem_cons.1 m2 with e | m2
        · exact e.symm
        · exact absurd (dlt_trans (hx.1 y m2) (hy.1 x m1)) (dlt_irrefl x)
    subst e
    rw [srt_uniq hx.2 hy.2 ((List.perm_cons x).1 p)]

/-- Laid in order. -/
def insD (d : Due) : List Due → List Due
  | [] => [d]
  | x :: l => if dlt x d then x :: insD d l else d :: x :: l

theorem insD_perm (d : Due) : ∀ l, (insD d l).Perm (d :: l)
  | [] => List.Perm.refl _
  | x :: l => by
    unfold insD
    split
    · exact ((insD_perm d l).cons x).trans (List.Perm.swap d x l)
    · exact List.Perm.refl _

theorem insD_srt {d : Due} : ∀ {l : List Due}, Srt l → (∀ x ∈ l, x.2 ≠ d.2) → Srt (insD d l)
  | [], _, _ => by simp [Srt, insD]
  | x :: l, h, hn => by
    have hx := List.pairwise_cons.1 h
    unfold insD
    split
    · rename_i hlt
      refine List.pairwise_cons.2 ⟨fun y hy => ?_, insD_srt hx.2 (fun y hy => hn y (List.mem_cons_of_mem _ hy))⟩
      rcases List.mem_cons.1 ((insD_perm d l).mem_iff.1 hy) with e | e
      · rw [e]; exact hlt
      · exact hx.1 y e
    · rename_i hlt
      have hd : dlt d x := by
        have h1 := dle_of_not hlt
        have h2 := hn x (List.mem_cons_self ..)
        unfold dle at h1; unfold dlt; omega
      refine List.pairwise_cons.2 ⟨fun y hy => ?_, h⟩
      rcases List.mem_cons.1 hy with e | e
      · rw [e]; exact hd
      · exact dlt_trans hd (hx.1 y e)

/-- The numbers but one. -/
def wo (n : Int) (R : List Due) : List Due := R.filter (fun x => decide (x.2 ≠ n))

/-- What stands there when a number is set. -/
def setR (R : List Due) (d : Due) : List Due := insD d (wo d.2 R)

theorem setR_srt {R : List Due} (h : Srt R) (d : Due) : Srt (setR R d) := by
  refine insD_srt (h.sublist List.filter_sublist) (fun x hx => ?_)
  have := (List.mem_filter.1 hx).2
  simpa using this

theorem setR_perm (R : List Due) (d : Due) : (setR R d).Perm (d :: wo d.2 R) := insD_perm d _

theorem set_split {G : List Due} {p : Nat} (hp : p < G.length) (d : Due) : (G.set p d).Perm (d :: (G.take p ++ G.drop (p + 1))) := by
  rw [List.set_eq_take_append_cons_drop, if_pos hp]
  exact List.perm_middle

theorem wo_split {G : List Due} {p : Nat} (hp : p < G.length) (hn : ND G) {n : Int} (hd : (at' G p).2 = n) : wo n G = G.take p ++ G.drop (p + 1) := by
  have hG : G = G.take p ++ at' G p :: G.drop (p + 1) := by
    rw [at_eq hp]
    rw [List.getElem_cons_drop, List.take_append_drop]
  have keep : ∀ l : List Due, (∀ x ∈ l, x.2 ≠ n) → wo n l = l := by
    intro l hl
    unfold wo
    rw [List.filter_eq_self]
    intro x hx
    simpa using hl x hx
  have h1 : ∀ x ∈ G.take p, x.2 ≠ n := by
    intro x hx e
    rw [List.mem_take_iff_getElem] at hx
    obtain ⟨i, hi, rfl⟩ := hx
    have := hn.inj (i := i) (j := p) (by omega) hp (by rw [at_eq (by omega), e, hd])
    omega
  have h2 : ∀ x ∈ G.drop (p + 1), x.2 ≠ n := by
    intro x hx e
    rw [List.mem_drop_iff_getElem] at hx
    obtain ⟨i, hi, rfl⟩ := hx
    have := hn.inj (i := p + 1 + i) (j := p) (by omega) hp (by rw [at_eq (by omega), e, hd])
    omega
  conv => lhs; rw [hG]
  unfold wo at *
  rw [List.filter_append, List.filter_cons, if_neg (by simp [hd]), keep _ h1, keep _ h2]

theorem wo_perm {G R : List Due} (n : Int) (h : G.Perm R) : (wo n G).Perm (wo n R) := h.filter _

/-- Set where it stands already. -/
theorem set_there {G R : List Due} {p : Nat} {d : Due} (hp : p < G.length) (hn : ND G) (hd : (at' G p).2 = d.2) (h : G.Perm R) : (G.set p d).Perm (setR R d) := by
  refine (set_split hp d).trans (List.Perm.trans ?_ (setR_perm R d).symm)
  rw [← wo_split hp hn hd]
  exact (wo_perm d.2 h).cons d

/-- Set where it does not stand. -/
theorem set_new {G R : List Due} {P : Int → Option Nat} {d : Due} (hp : Pl G P) (hd : P d.2 = none) (h : G.Perm R) : (G ++ [d]).Perm (setR R d) := by
  have keep : wo d.2 G = G := by
    unfold wo
    rw [List.filter_eq_self]
    intro x hx
    obtain ⟨i, hi, rfl⟩ := List.getElem_of_mem hx
    have := hp.pl i hi
    rw [at_eq hi] at this
    simp
    intro e
    rw [e, hd] at this
    cases this
  refine List.Perm.trans ?_ (setR_perm R d).symm
  refine List.Perm.trans (List.perm_append_comm) ?_
  have := (wo_perm d.2 h).cons d
  rw [keep] at this
  exact this

theorem setR_length {R : List Due} {d : Due} : (setR R d).length ≤ R.length + 1 := by
  rw [(setR_perm R d).length_eq]
  have := List.length_filter_le (fun x : Due => decide (x.2 ≠ d.2)) R
  simp only [List.length_cons]
  unfold wo
  omega

/-- The first one in order stands at the top. -/
theorem top_head {G R : List Due} {x : Due} (hh : IsHeap G) (h : G.Perm (x :: R)) (hs : Srt (x :: R)) : at' G 0 = x := by
  have hl : 0 < G.length := by rw [h.length_eq]; simp
  have hx := List.pairwise_cons.1 hs
  have m : at' G 0 ∈ x :: R := h.mem_iff.1 (at_mem hl)
  have m2 : x ∈ G := h.mem_iff.2 (List.mem_cons_self ..)
  obtain ⟨i, hi, e⟩ := List.getElem_of_mem m2
  have h1 := hh.top i hi
  rw [at_eq hi, e] at h1
  rcases List.mem_cons.1 m with e2 | e2
  · exact e2
  · exact dle_antisymm h1 (dle_of_dlt (hx.1 _ e2))

/-- What is due, and what is left. -/
def due (t : Int) (R : List Due) : List Due := R.takeWhile (fun x => decide (x.1 ≤ t))
def rest (t : Int) (R : List Due) : List Due := R.dropWhile (fun x => decide (x.1 ≤ t))

theorem due_rest (t : Int) (R : List Due) : due t R ++ rest t R = R := List.takeWhile_append_dropWhile

theorem rest_srt {R : List Due} (h : Srt R) (t : Int) : Srt (rest t R) := h.sublist (List.dropWhile_sublist _)

theorem due_le {t : Int} : ∀ {R : List Due}, ∀ x ∈ due t R, x.1 ≤ t
  | [], x, hx => by simp [due] at hx
  | y :: R, x, hx => by
    unfold due at hx
    by_cases e : y.1 ≤ t
    · rw [List.takeWhile_cons_of_pos (by simpa using e)] at hx
      rcases List.mem_cons.1 hx with e2 | e2
      · rw [e2]; exact e
      · exact due_le x e2
    · rw [List.takeWhile_cons_of_neg (by simpa using e)] at hx
      simp at hx

theorem rest_gt {t : Int} : ∀ {R : List Due}, Srt R → ∀ x ∈ rest t R, t < x.1
  | [], _, x, hx => by simp [rest] at hx
  | y :: R, h, x, hx => by
    have hy := List.pairwise_cons.1 h
    unfold rest at hx
    by_cases e : y.1 ≤ t
    · rw [List.dropWhile_cons_of_pos (by simpa using e)] at hx
      exact rest_gt hy.2 x hx
    · rw [List.dropWhile_cons_of_neg (by simpa using e)] at hx
      rcases List.mem_cons.1 hx with e2 | e2
      · rw [e2]; omega
      · have := hy.1 x e2
        unfold dlt at this
        omega

/-- In one step or in two. -/
theorem due_two {a b : Int} (hab : a ≤ b) : ∀ {R : List Due}, due b R = due a R ++ due b (rest a R) ∧ rest b (rest a R) = rest b R
  | [] => by simp [due, rest]
  | y :: R => by
    have ih := due_two hab (R := R)
    unfold due rest at *
    by_cases e : y.1 ≤ a
    · rw [List.dropWhile_cons_of_pos (p := fun x : Due => decide (x.1 ≤ a)) (by simpa using e), List.takeWhile_cons_of_pos (p := fun x : Due => decide (x.1 ≤ a)) (by simpa using e), List.takeWhile_cons_of_pos (p := fun x : Due => decide (x.1 ≤ b)) (by simp; omega), List.dropWhile_cons_of_pos (p := fun x : Due => decide (x.1 ≤ b)) (by simp; omega)]
      exact ⟨by rw [ih.1]; simp, ih.2⟩
    · rw [List.dropWhile_cons_of_neg (p := fun x : Due => decide (x.1 ≤ a)) (by simpa using e), List.takeWhile_cons_of_neg (p := fun x : Due => decide (x.1 ≤ a)) (by simpa using e)]
      exact ⟨by simp, rfl⟩
end Go.Proofs.Ytbaibikpdaphoaa
